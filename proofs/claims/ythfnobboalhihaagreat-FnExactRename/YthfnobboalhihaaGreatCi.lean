import Derived.Test.YthfnobboalhihaaGreatCg2c
import Derived.Test.YthfnobboalhihaaGreatCg6
import Derived.Test.YthfnobboalhihaaGreatCg10
set_option maxHeartbeats 4000000
set_option maxRecDepth 100000
namespace Go.Proofs.YthfnobboalhihaaGreat.C
open Go.RowKit Go.Joins
theorem YR (nm:ByteArray) (mn:Bool) (la na ka aa:Option Addr) (lc nc kn kc an ac:Nat) (lm:List Int) (ns:List ByteArray) (al:Tm) (W:World) (nb:Nat) (hnb:nb<=W.heap.size) (hl:LR W (λb=>b < nb) la lc lm) (hn:SR W (λb=>b < nb) na nc ns) (hkn:kn<=maxLen) (ed:an<=maxLen) (hal:al.len=an) (hnm:nm.size<=maxLen) (q:Bool) (hq:q=true↔fA ⟨⟨#[]⟩,[],7,nm,mn,lm,ns⟩ kn al) (hsz:ns.length<=1048576):
  Calls Tryz.prog 61 #[.agg #[.int .i64 7,.string nm,.bool mn,.slice la lm.length lc,.slice na ns.length nc,.slice ka kn kc,.slice aa an ac]] W λe W'=>e=.returned (.bool q)∧Below W.heap.size W W':=by
 rw [Nq] at hq;obtain ⟨n3,aD⟩:∃n,n=lm.length:=⟨_,rfl⟩
 obtain ⟨n4,aC⟩:∃n,n=ns.length:=⟨_,rfl⟩
 have hx3:n3<=9223372036854775807:=by have h2:=hl.le;have h3:=hl.mx;simp only [maxLen] at h3;omega
 have hx4:n4<=1048576:=by have h2:=hn.le;have h3:=hn.mx;simp only [maxLen] at h3;omega
 have hx5:kn<=9223372036854775807:=hkn;have hx6:an<=9223372036854775807:=ed;have hx1:nm.size<=9223372036854775807:=hnm;obtain ⟨q2,hq2⟩:∃q2:Bool,q2=true↔bC ns:=by
  exact zz235
 have HC:Hid (∀V,Below W.heap.size W V->Calls Tryz.prog 96 #[.slice na n4 nc] V λe W'=>e=.returned (.bool q2)∧Below V.heap.size V W'):=λV bV=>by
  exact zz186
 have eO:=hide hq2;clear hq2;have HB:=hide (below_alloc1 W (.cells #[.int .i64 7,.string nm,.bool mn,.slice la n3 lc,.slice na n4 nc,.slice ka kn kc,.slice aa an ac] 35));rw [<- aD,<- aC];clear hl
 by_cases g0:0 < n3
 .have g0':(0:Int) < n3:=by omega
  exact zz16
 have e3:n3=0:=by omega
 have hlm:lm=[]:=List.length_eq_zero_iff.1 (by omega);subst e3
 cases mn with
 | true=>
  exact zz23
 | false=>
 by_cases g6:0 < an
 .have yI:(0:Int) < an:=by omega
  exact zz26
 have e6:an=0:=by omega
 subst e6
 by_cases g1:¬nm.toList=[]
 .have D9:nm.toList.isEmpty=false:=by cases hh:nm.toList with
   | nil=>exact absurd hh g1
   | cons _ _=>rfl
  exact zz95
 have yK:nm=⟨#[]⟩:=(bJ nm).1 (Decidable.not_not.1 g1);clear g1;subst yK
 by_cases g4:¬0 < n4
 .have g4':¬(1:Int)<=n4:=by omega
  have HQ:Hid (q=false):=by
   cases hqq:q with
   | false=>rfl
   | true=>exact absurd (hq.1 hqq).2.2.2.2.1 (by intro h;exact h (List.length_eq_zero_iff.1 (by omega)))
  have e4:n4=0:=by omega
  clear hq aD aC g4 HC g4';subst e4;exact zz2
 have g4a:(1:Int)<=n4:=by omega
 have VT:¬ns=[]:=λe=>by rw [e] at aC;simp at aC;omega
 have g4c:0 < n4:=by omega
 clear g4
 by_cases g5:¬kn=n4+1
 .have Cm:((kn:Int)==(n4:Int)+1)=false:=by rw [beq_eq_false_iff_ne];omega
  have Gw:¬(kn:Int)=(n4:Int)+1:=by omega
  have HQ:Hid (q=false):=by
   cases hqq:q with
   | false=>rfl
   | true=>exact absurd (hq.1 hqq).2.2.2.2.2.1 (by omega)
  clear hq aD aC HC;exact zz2
 have ZK:(kn:Int)=(n4:Int)+1:=by omega
 have g5p:kn=ns.length+1:=by omega
 have tC:=hide g5p;clear g5 g5p;have g5b:((kn:Int)==(n4:Int)+1)=true:=by rw [beq_iff_eq];exact ZK
 have HQ:Hid (q2=q):=by
  show q2=q;have h4:=eO.out
  by_cases hL:bC ns
  .rw [h4.2 hL,hq.2 ⟨hlm,rfl,by omega,rfl,VT,tC.out,hL⟩]
  .cases q2 with
   | true=>exact absurd (h4.1 rfl) hL
   | false=>
    exact zz239
 exact zz17
end Go.Proofs.YthfnobboalhihaaGreat.C
namespace Go.Proofs.YthfnobboalhihaaGreat
open Go.RowKit Go.Joins
theorem zz90 {P:Prop} (h:P:=by
 clear hq aD aC;go_enter Tryz.func61,Tryz.ntmps61;go_wp2_with fail;refine (HC.out _).mono ?_;rintro e w1 ⟨rfl,rfl⟩;go_wp2_with fail;refine (HC.out _).mono ?_;rintro e w2 ⟨rfl,rfl⟩;exact zz162):P:=h
end Go.Proofs.YthfnobboalhihaaGreat
namespace Go.Proofs.YthfnobboalhihaaGreat.C
open Go.RowKit Go.Joins
theorem XU (nm:ByteArray) (mn:Bool) (la na ka aa:Option Addr) (lc nc kn kc an ac:Nat) (lm:List Int) (ns:List ByteArray) (al:Tm) (W:World) (nb:Nat) (_hnb:nb<=W.heap.size) (hl:LR W (λb=>b < nb) la lc lm) (hn:SR W (λb=>b < nb) na nc ns) (hkn:kn<=maxLen) (ed:an<=maxLen) (hal:al.len=an) (hnm:nm.size<=maxLen) (q:Bool) (hq:q=true↔fA ⟨⟨#[]⟩,[],9,nm,mn,lm,ns⟩ kn al):
  Calls Tryz.prog 61 #[.agg #[.int .i64 9,.string nm,.bool mn,.slice la lm.length lc,.slice na ns.length nc,.slice ka kn kc,.slice aa an ac]] W λe W'=>e=.returned (.bool q)∧Below W.heap.size W W':=by
 rw [Nk] at hq;obtain ⟨n3,aD⟩:∃n,n=lm.length:=⟨_,rfl⟩
 obtain ⟨n4,aC⟩:∃n,n=ns.length:=⟨_,rfl⟩
 have hx3:n3<=9223372036854775807:=by have h2:=hl.le;have h3:=hl.mx;simp only [maxLen] at h3;omega
 have hx4:n4<=9223372036854775807:=by have h2:=hn.le;have h3:=hn.mx;simp only [maxLen] at h3;omega
 have hx5:kn<=9223372036854775807:=hkn;have hx6:an<=9223372036854775807:=ed;have hx1:nm.size<=9223372036854775807:=hnm;obtain ⟨pc,hpc⟩:∃x,iM nm=x:=⟨_,rfl⟩
 have hpl:=Qv nm;rw [hpc] at hq hpl;have HC:Hid (∀V,Calls Tryz.prog 98 #[.string nm] V λe W'=>e=.returned (.int .i64 pc)∧W'=V):=λV=>by rw [<- hpc];exact Uz nm V
 clear hpc;have HB:=hide (below_alloc1 W (.cells #[.int .i64 9,.string nm,.bool mn,.slice la n3 lc,.slice na n4 nc,.slice ka kn kc,.slice aa an ac] 35));rw [<- aD,<- aC];clear hl;clear hn
 by_cases g0:0 < n3
 .have g0':(0:Int) < n3:=by omega
  exact zz16
 have e3:n3=0:=by omega
 have hlm:lm=[]:=List.length_eq_zero_iff.1 (by omega);subst e3
 cases mn with
 | true=>
  exact zz23
 | false=>
 by_cases g6:0 < an
 .have yI:(0:Int) < an:=by omega
  exact zz26
 have e6:an=0:=by omega
 subst e6
 by_cases g4:0 < n4
 .have g4':(0:Int) < n4:=by omega
  exact zz30
 have e4:n4=0:=by omega
 have hns:ns=[]:=List.length_eq_zero_iff.1 (by omega);subst e4
 by_cases g8:¬0 < pc
 .skip
  have HQ:Hid (q=false):=by
   cases hqq:q with
   | false=>rfl
   | true=>exact absurd (hq.1 hqq).2.2.2.2.1 (by exact g8)
  clear hq aD aC;go_enter Tryz.func61,Tryz.ntmps61;go_wp2_with fail;refine (HC.out _).mono ?_;rintro e w1 ⟨rfl,rfl⟩;exact zz162
 have g8a:0 < pc:=by omega
 clear g8
 by_cases g9:¬(kn:Int)=pc
 .have g9':((kn:Int)==pc)=false:=by rw [beq_eq_false_iff_ne];exact g9
  have HQ:Hid (q=false):=by
   cases hqq:q with
   | false=>rfl
   | true=>exact absurd (hq.1 hqq).2.2.2.2.2 (by exact g9)
  exact zz90
 have UZ:(kn:Int)=pc:=by omega
 have g9b:((kn:Int)==pc)=true:=by rw [beq_iff_eq];exact UZ
 have HG9:=hide UZ;clear g9 UZ;have HQ:Hid (q=true):=hq.2 ⟨hlm,rfl,by omega,hns,g8a,HG9.out⟩;exact zz90
end Go.Proofs.YthfnobboalhihaaGreat.C
namespace Go.Proofs.YthfnobboalhihaaGreat
open Go.RowKit Go.Joins
theorem zz202 {P:Prop} (h:P:=by
 exact ⟨λ⟨a,b,c,d⟩=>⟨⟨a,b,c,trivial⟩,d⟩,λ⟨⟨a,b,c,_⟩,d⟩=>⟨a,b,c,d⟩⟩):P:=h
theorem zz232 {P:Prop} (h:P:=by
 clear b2;go_wp2_with fail;go_ret;exact ⟨by rw [HF.out];rfl,mE.out w2 xe.out⟩):P:=h
end Go.Proofs.YthfnobboalhihaaGreat
namespace Go.Proofs.YthfnobboalhihaaGreat.C
open Go.RowKit Go.Joins
def Tm.good:Tm->Prop
 | .nil=>True
 | .nd h ks al r=>fA h ks.len al∧ks.good∧al.good∧r.good
theorem lQ {W:World} {S:Nat->Prop} {a:Option Addr} {n c:Nat} {F:Fo} (h:Fo.Sub W S a n c F):n<=maxLen:=Nat.le_trans h.1 h.2.1
theorem NY (F:Fo) (nb:Nat) (W:World) (hf:Fit E F (E 3)) (hnb:nb<=W.heap.size) (hwt:F.wt<=1048576) (hs:F.av W (λc=>c < nb)) (h:Hd) (ks al:Tm) (he:di F=.nd h ks al .nil) (q:Bool) (hq:q=true↔fA h ks.len al):
  Calls Tryz.prog 61 #[.agg F.vals.toArray] W λe W'=>e=.returned (.bool q)∧Below W.heap.size W W':=by
 obtain ⟨k,nm,mn,la,ln,lc,lk,na,nn,nc,nk,ka,kn,kc,kk,aa,an,ac,ak,rfl,-,hnm,h3,h4,h5,h6⟩:=ag hf;obtain ⟨hs3,hs4,hs5,hs6,-⟩:=hs;rw [eT,dB] at he;obtain ⟨rfl,rfl,rfl,-⟩:=Tm.nd.inj he;simp only [Fo.wt,bU] at hwt;simp only [Fo.vals];rw [pJ kn kk h5] at hq;obtain ⟨hlr,hll⟩:=Mk h3 hs3;obtain ⟨pR,hsl⟩:=CX h4 hs4;have hal:=kz an ak h6;have hkn:=lQ hs5;have ed:=lQ hs6;rw [<- hll,<- hsl]
 by_cases e1:k=1
 .subst e1;exact YM nm mn la na ka aa lc nc kn kc an ac (gW lk) (eU nk) (aV ak) W nb hnb hlr pR hkn ed hal hnm q hq
 by_cases e2:k=2
 .subst e2
  rcases Nat.eq_zero_or_pos (gW lk).length with hv | hv
  .cases hm:mn with
   | true=>exact Vn nm true la na ka aa lc nc kn kc an ac (gW lk) (eU nk) (aV ak) W nb hnb hlr pR hkn ed hal hnm q (by rw [hm] at hq;exact hq) hv rfl
   | false=>exact Uy nm false la na ka aa lc nc kn kc an ac (gW lk) (eU nk) (aV ak) W nb hnb hlr pR hkn ed hal hnm q (by rw [hm] at hq;exact hq) hv rfl
  .exact Vo nm mn la na ka aa lc nc kn kc an ac (gW lk) (eU nk) (aV ak) W nb hnb hlr pR hkn ed hal hnm q hq hv
 by_cases e3:k=3
 .subst e3;exact YN nm mn la na ka aa lc nc kn kc an ac (gW lk) (eU nk) (aV ak) W nb hnb hlr pR hkn ed hal hnm q hq
 by_cases e4:k=4
 .subst e4;exact YO nm mn la na ka aa lc nc kn kc an ac (gW lk) (eU nk) (aV ak) W nb hnb hlr pR hkn ed hal hnm q hq
 by_cases e5:k=5
 .subst e5;exact YP nm mn la na ka aa lc nc kn kc an ac (gW lk) (eU nk) (aV ak) W nb hnb hlr pR hkn ed hal hnm q hq
 by_cases e6:k=6
 .subst e6;exact YQ nm mn la na ka aa lc nc kn kc an ac (gW lk) (eU nk) (aV ak) W nb hnb hlr pR hkn ed hal hnm q hq
 by_cases e7:k=7
 .subst e7;exact YR nm mn la na ka aa lc nc kn kc an ac (gW lk) (eU nk) (aV ak) W nb hnb hlr pR hkn ed hal hnm q hq (by omega)
 by_cases e9:k=9
 .subst e9;exact XU nm mn la na ka aa lc nc kn kc an ac (gW lk) (eU nk) (aV ak) W nb hnb hlr pR hkn ed hal hnm q hq
 by_cases e10:k=10
 .subst e10;exact Vp nm mn la na ka aa lc nc kn kc an ac (gW lk) (eU nk) (aV ak) W nb hnb hlr pR hkn ed hal hnm q hq
 by_cases e8:k=8
 .subst e8;exact YS nm mn la na ka aa lc nc kn kc an ac (gW lk) (eU nk) ak W nb hnb hlr pR hkn (by omega) h6 hs6 q hq
 have hno:=zk ⟨⟨#[]⟩,[],k,nm,mn,gW lk,eU nk⟩ kn (aV ak) e1 e2 e3 e4 e5 e6 e7 e8 e9 e10;have xc:q=false:=by
  cases hqq:q with
  | false=>rfl
  | true=>exact absurd (hq.1 hqq) hno
 rw [xc];have nb_:∀n:Int,¬k=n->(k==n)=false:=λn h=>by rw [beq_eq_false_iff_ne];exact h
 exact KS k nm mn la na ka aa _ lc _ nc kn kc an ac W (by rw [hll];exact lQ hs3) (by rw [hsl];exact lQ hs4) hkn ed (nb_ 1 e1) (nb_ 2 e2) (nb_ 3 e3) (nb_ 4 e4) (nb_ 5 e5) (nb_ 6 e6) (nb_ 7 e7) (nb_ 8 e8) (nb_ 9 e9) (nb_ 10 e10)
theorem Ab {x:Fo} (hx:Fit E x (E 3)) (q:Fo):(di (x.app q)).good↔(di x).good∧(di q).good:=by
 obtain ⟨k,nm,mn,la,ln,lc,lk,na,nn,nc,nk,ka,kn,kc,kk,aa,an,ac,ak,rfl,-⟩:=ag hx;simp only [Fo.app];rw [eT,eT,dB];simp only [Tm.good];exact zz202
theorem BP (h h':Hd) (kn:Nat) (al:Tm) (e1:h.k=h'.k) (e2:h.nm=h'.nm) (e3:h.mn=h'.mn) (e4:h.lm=h'.lm) (e5:h.ns=h'.ns):fA h kn al↔fA h' kn al:=by
 simp only [fA,e1,e2,e3,e4,e5]
theorem Ac {x:Fo} (hx:Fit E x (E 2)) (q:Fo):∃(au:ByteArray) (ca:Option Addr) (cn cc:Nat) (ck y:Fo),x=.v (.string au) (.s ca cn cc ck y)∧Fit E y (E 3)∧((aV (x.app q)).good↔(di y).good∧(aV q).good):=by
 obtain ⟨au,ca,cn,cc,ck,y,rfl,-,h1,hy⟩:=aK hx;refine ⟨au,ca,cn,cc,ck,y,rfl,hy,?_⟩;obtain ⟨k,nm,mn,la,ln,lc,lk,na,nn,nc,nk,ka,kn,kc,kk,aa,an,ac,ak,rfl,-⟩:=ag hy;simp only [Fo.app];rw [oH,eT,dB];simp only [Tm.good];rw [BP ⟨au,eU ck,k,nm,mn,gW lk,eU nk⟩ ⟨⟨#[]⟩,[],k,nm,mn,gW lk,eU nk⟩ _ _ rfl rfl rfl rfl rfl];exact zz202
theorem truth (p:Prop):∃q:Bool,q=true↔p:=by
 by_cases h:p
 .exact ⟨true,by simp [h]⟩
 .exact ⟨false,by simp [h]⟩
def NZ (m:Nat):Prop:=∀(F:Fo) (nb:Nat) (W:World) (q:Bool),F.size<=m->Fit E F (E 3)->nb<=W.heap.size->F.wt<=1048576->F.av W (λc=>c < nb)->(q=true↔(di F).good)->
 Calls Tryz.prog 41 #[.agg F.vals.toArray] W λe W'=>e=.returned (.bool q)∧Below W.heap.size W W'
theorem Iy (m:Nat) (ih:NZ m):NZ (m+1):=by
 intro F nb W q hm hf hnb hwt hs hq;have YT:=NY F nb;obtain ⟨k,nm,mn,la,ln,lc,lk,na,nn,nc,nk,ka,kn,kc,kk,aa,an,ac,ak,rfl,-,-,h3,h4,h5,h6⟩:=ag hf;rw [eT,dB] at hq;simp only [Tm.good,and_true] at hq;obtain ⟨q1,hq1⟩:=truth (fA ⟨⟨#[]⟩,[],k,nm,mn,gW lk,eU nk⟩ (di kk).len (aV ak));have hsub:=hs;obtain ⟨hs3,hs4,hs5,hs6,-⟩:=hs;obtain ⟨V0,bE⟩:∃V,W.alloc (.cells #[.int .i64 k,.string nm,.bool mn,.slice la ln lc,.slice na nn nc,.slice ka kn kc,.slice aa an ac] 35)=V:=⟨_,rfl⟩
 have b0:Below W.heap.size W V0:=by rw [<- bE];exact below_alloc1 _ _
 have q0:Bx V0 W.heap.size [.int .i64 k,.string nm,.bool mn,.slice la ln lc,.slice na nn nc,.slice ka kn kc,.slice aa an ac]:=by rw [<- bE];exact Bx.new _ _ _
 have HC:=hide (YT V0 hf (Nat.le_trans hnb b0.size) hwt (hsub.below b0 (λc hc=>by omega)) _ _ _ (by rw [eT,dB]) q1 hq1);simp only [Fo.size] at hm;simp only [Fo.wt,bU] at hwt;simp only [Fo.vals] at HC ⊢;have HQ:=hide hq;have gN:=hide hq1;have Di:=hide q0;have HB0:=hide b0;have gP:=hide bE;have Ad:Hid (∀V,Below V0.heap.size V0 V->Rd E (E 2) an nb aa 0 ak V):=λV k=>((Rd.start h6 hs6).below b0 hnb).below k (by have:=b0.size;omega)
 have K8:Hid (∀V,Below V0.heap.size V0 V->Rd E (E 3) kn nb ka 0 kk V):=λV k=>((Rd.start h5 hs5).below b0 hnb).below k (by have:=b0.size;omega)
 have mE:Hid (∀V,Below V0.heap.size V0 V->Below W.heap.size W V):=λV k=>b0.trans (k.mono b0.size)
 have hax:an<=9223372036854775807:=lQ hs6;have hkx:kn<=9223372036854775807:=lQ hs5;have c0:=q0.ae 0 _ rfl;have c1:=q0.ae 1 _ rfl;have c2:=q0.ae 2 _ rfl;have c3:=q0.ae 3 _ rfl;have c4:=q0.ae 4 _ rfl;have c5:=q0.ae 5 _ rfl;have c6:=q0.ae 6 _ rfl;have HM:=hide hm;have HZ:Hid (nb<=V0.heap.size):=Nat.le_trans hnb b0.size;clear bE b0 q0 hq hq1 hs3 hs4 hs5 hs6 hsub YT hf h3 h4 h5 h6 hm hnb;go_enter Tryz.func41,Tryz.ntmps41
 go_upto_region 1 with fail
 rw [gP.out];clear gP;go_wp2_with fail;refine HC.out.mono ?_;rintro e w1 ⟨rfl,b1⟩;clear HC c0 c1 c2 c3 c4 c5 c6;have fU:=hide b1
 cases q1 with
 | false=>
  have HF:Hid (q=false):=by
   cases hqq:q with
   | false=>rfl
   | true=>exact absurd (gN.out.2 (HQ.out.1 hqq).1) (by simp)
  clear b1;go_wp2_with fail;go_ret;exact ⟨by rw [HF.out];rfl,mE.out w1 fU.out⟩
 | true=>
  have eO:Hid (q=true↔(di kk).good∧(aV ak).good):=by
   unfold Hid;rw [HQ.out];exact ⟨λh=>h.2,λh=>⟨gN.out.1 rfl,h⟩⟩
  have c5:=(Di.out.below b1).ae 5 _ rfl;clear b1 HQ gN;go_wp2_with fail
  go_loopw [3] (λs3 wr=>∃(i:Nat) (r:Fo),s3=.int .i64 i∧i<=kn∧Hid (((di kk).good↔(di r).good)∧r.wt<=kk.wt∧r.size<=kk.size)∧Hid (Rd E (E 3) kn nb ka i r wr)∧Hid (Below V0.heap.size V0 wr)) (λs3 _=>kn - (intOf s3).toNat)
  case atStart=>exact ⟨0,kk,rfl,Nat.zero_le _,⟨Iff.rfl,Nat.le_refl _,Nat.le_refl _⟩,K8.out w1 fU.out,fU⟩
  case round=>
   obtain ⟨j,r,rfl,hjn,kK,iT,hK2⟩:=hrel;clear c5;have c5:=(Di.out.below hK2.out).ae 5 _ rfl
   by_cases hj:j < kn
   .obtain ⟨x,rr,b,o,rfl,hx,rfl,hb,hc,hxs,dx⟩:=iT.out.next hj (by decide)
    obtain ⟨g1,g2,g3⟩:=kK.out;rw [Ab hx] at g1;rw [Fo.dN] at g2;rw [Fo.aM] at g3;have hjj:(j:Int) < kn:=by omega
    obtain ⟨qx,Bw⟩:=truth (di x).good;have HC:=hide (ih x nb wr qx (by have:=HM.out;omega) hx (Nat.le_trans HZ.out hK2.out.size) (by omega) hxs Bw);have gz:=hide g1;have Iz:=hide Bw;have HR1:=hide dx;have HG2:Hid (rr.wt<=kk.wt∧rr.size<=kk.size):=⟨by omega,by omega⟩
    obtain ⟨xk,dJ,bP,dO,bQ,dP,wy,dQ,bR,dR,wz,dU,bS,dV,wB,dW,bT,dX,wC,rfl,-⟩:=ag hx;simp only [Fo.vals] at HC hc;have p0:wr.cell? ⟨b,o+j * 7,none⟩=some (.int .i64 xk):=hc 0 _ rfl;have p1:wr.cell? ⟨b,o+j * 7+1,none⟩=some (.string dJ):=hc 1 _ rfl;have p2:wr.cell? ⟨b,o+j * 7+2,none⟩=some (.bool bP):=hc 2 _ rfl;have p3:wr.cell? ⟨b,o+j * 7+3,none⟩=some (.slice dO bQ dP):=hc 3 _ rfl;have p4:wr.cell? ⟨b,o+j * 7+4,none⟩=some (.slice dQ bR dR):=hc 4 _ rfl;have p5:wr.cell? ⟨b,o+j * 7+5,none⟩=some (.slice dU bS dV):=hc 5 _ rfl;have p6:wr.cell? ⟨b,o+j * 7+6,none⟩=some (.slice dW bT dX):=hc 6 _ rfl;clear hc hxs hx g1 g2 g3 kK iT dx Bw;go_wp2_with fail;refine HC.out.mono ?_;clear HC;rintro e w2 ⟨rfl,b2⟩;have xe:=hide (hK2.out.trans (b2.mono hK2.out.size))
    cases qx with
    | false=>
     have HF:Hid (q=false):=by
      cases hqq:q with
      | false=>rfl
      | true=>exact absurd (Iz.out.2 (gz.out.1 (eO.out.1 hqq).1).1) (by simp)
     exact zz232
    | true=>
     have lK:Hid (((di kk).good↔(di rr).good)∧rr.wt<=kk.wt∧rr.size<=kk.size):=⟨⟨λh=>(gz.out.1 h).2,λh=>gz.out.2 ⟨Iz.out.1 rfl,h⟩⟩,HG2.out⟩
     have xg:=hide (HR1.out.below b2 (Nat.le_trans HZ.out hK2.out.size));clear b2 gz Iz HG2;go_wp2_with fail;go_roundw
     case rel=>exact ⟨j+1,rr,by go_num,by omega,lK,xg,xe⟩
     case measure=>simp [intOf];omega
   .obtain ⟨rfl,rfl⟩:=iT.out.done hj
    obtain ⟨g1,-,-⟩:=kK.out;rw [dB] at g1;have jh:Hid (q=true↔(aV ak).good):=by
     unfold Hid;rw [eO.out];exact ⟨λh=>h.2,λh=>⟨g1.2 trivial,h⟩⟩
    have N7:=hide (Ad.out wr hK2.out);have hjj:¬(j:Int) < j:=by omega
    clear g1 kK iT eO;go_wp2_with fail
    go_loopw [4] (λs4 wr=>∃(i1:Nat) (r:Fo),s4=.int .i64 i1∧i1<=an∧Hid (((aV ak).good↔(aV r).good)∧r.wt<=ak.wt∧r.size<=ak.size)∧Hid (Rd E (E 2) an nb aa i1 r wr)∧Hid (Below V0.heap.size V0 wr)) (λs4 _=>an - (intOf s4).toNat)
    case atStart=>exact ⟨0,ak,rfl,Nat.zero_le _,⟨Iff.rfl,Nat.le_refl _,Nat.le_refl _⟩,N7,hK2⟩
    case round=>
     obtain ⟨i1,r,rfl,YU,kK,iT,hK3⟩:=hrel;clear c5;have c6:=(Di.out.below hK3.out).ae 6 _ rfl
     by_cases hj1:i1 < an
     .obtain ⟨x,rr,b,o,rfl,hx,rfl,hb,hc,hxs,dx⟩:=iT.out.next hj1 (by decide)
      obtain ⟨g1,g2,g3⟩:=kK.out;obtain ⟨au,ca,cn,cc,ck,y,rfl,hy,hap⟩:=Ac hx rr;rw [hap] at g1;rw [Fo.dN] at g2;rw [Fo.aM] at g3;simp only [Fo.wt,Fo.size] at g2 g3;have hjj1:(i1:Int) < an:=by omega
      obtain ⟨qx,Bw⟩:=truth (di y).good;have HC:=hide (ih y nb wr qx (by have:=HM.out;omega) hy (Nat.le_trans HZ.out hK3.out.size) (by omega) hxs.2 Bw);have gz:=hide g1;have Iz:=hide Bw;have HR1:=hide dx;have HG2:Hid (rr.wt<=ak.wt∧rr.size<=ak.size):=⟨by omega,by omega⟩
      obtain ⟨xk,dJ,bP,dO,bQ,dP,wy,dQ,bR,dR,wz,dU,bS,dV,wB,dW,bT,dX,wC,rfl,-⟩:=ag hy;simp only [Fo.vals] at HC hc;have p0:wr.cell? ⟨b,o+i1 * 9+2,none⟩=some (.int .i64 xk):=hc 2 _ rfl;have p1:wr.cell? ⟨b,o+i1 * 9+2+1,none⟩=some (.string dJ):=hc 3 _ rfl;have p2:wr.cell? ⟨b,o+i1 * 9+2+2,none⟩=some (.bool bP):=hc 4 _ rfl;have p3:wr.cell? ⟨b,o+i1 * 9+2+3,none⟩=some (.slice dO bQ dP):=hc 5 _ rfl;have p4:wr.cell? ⟨b,o+i1 * 9+2+4,none⟩=some (.slice dQ bR dR):=hc 6 _ rfl;have p5:wr.cell? ⟨b,o+i1 * 9+2+5,none⟩=some (.slice dU bS dV):=hc 7 _ rfl;have p6:wr.cell? ⟨b,o+i1 * 9+2+6,none⟩=some (.slice dW bT dX):=hc 8 _ rfl;clear hc hxs hx g1 g2 g3 kK iT dx Bw hap hy;go_wp2_with fail;refine HC.out.mono ?_;clear HC;rintro e w2 ⟨rfl,b2⟩;have xe:=hide (hK3.out.trans (b2.mono hK3.out.size))
      cases qx with
      | false=>
       have HF:Hid (q=false):=by
        cases hqq:q with
        | false=>rfl
        | true=>exact absurd (Iz.out.2 (gz.out.1 (jh.out.1 hqq)).1) (by simp)
       exact zz232
      | true=>
       have lK:Hid (((aV ak).good↔(aV rr).good)∧rr.wt<=ak.wt∧rr.size<=ak.size):=⟨⟨λh=>(gz.out.1 h).2,λh=>gz.out.2 ⟨Iz.out.1 rfl,h⟩⟩,HG2.out⟩
       have xg:=hide (HR1.out.below b2 (Nat.le_trans HZ.out hK3.out.size));clear b2 gz Iz HG2;go_wp2_with fail;go_roundw
       case rel=>exact ⟨i1+1,rr,by go_num,by omega,lK,xg,xe⟩
       case measure=>simp [intOf];omega
     .obtain ⟨rfl,-⟩:=iT.out.done hj1
      obtain ⟨g1,-,-⟩:=kK.out;rw [gY] at g1;have HF:Hid (q=true):=jh.out.2 (g1.2 trivial);have hji:¬(i1:Int) < an:=by omega
      clear g1 kK iT;go_wp2_with fail;go_ret;exact ⟨by rw [HF.out];rfl,mE.out wr hK3.out⟩
theorem BX:∀m,NZ m
 | 0=>λF _ _ _ hm hf=>absurd (Fit.len hf) (by have:=F.fJ;show ¬F.len=7;omega)
 | m+1=>Iy m (BX m)
end Go.Proofs.YthfnobboalhihaaGreat.C
