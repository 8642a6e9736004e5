import Derived.Test.YthfnobboalhihaaGreatCf
set_option maxHeartbeats 4000000
set_option maxRecDepth 100000
namespace Go.Proofs.YthfnobboalhihaaGreat
open Go.RowKit Go.Joins
theorem zz217 {P:Prop} (h:P:=by
 clear b1 gz HG2;go_wp2_with fail;go_ret;exact ⟨by rw [HF.out];rfl,mE.out w1 fU.out.kp⟩):P:=h
theorem zz237 {P:Prop} (h:P:=by
 cases hqq:q with
 | false=>rfl
 | true=>exact absurd (Pj.out.2 hqq).1 (by omega)):P:=h
end Go.Proofs.YthfnobboalhihaaGreat
namespace Go.Proofs.YthfnobboalhihaaGreat.C
open Go.RowKit Go.Joins
theorem Tryz.info9:(Tryz.prog.info? 9).map (λi=>(i.zero,i.size,i.bytes))=some (some (.string ⟨#[]⟩),1,16):=by kernel_rfl
theorem JS {W:World} {B:Nat} {v:Value} {n:Nat} {L:List ByteArray} (h:W.ownsRow B 9 1 v n (L.map Value.string)):∃a c,v=.slice a n c∧n=L.length∧SR W (λb=>b < W.heap.size) a c L:=by
 have hl:=h.1;rw [List.length_map,Nat.mul_one] at hl;rcases h.2 with ⟨rfl,rfl⟩ | ⟨g,cap,cur,rfl,hb,hg,hnc,hcm,hcs,ht⟩
 .have e:L=[]:=List.length_eq_zero_iff.1 hl
  subst e;exact ⟨none,0,rfl,rfl,SR.nil _ _ _ _ (Nat.zero_le _)⟩
 .refine ⟨_,cap,rfl,hl.symm,⟨by omega,hcm,λ_=>⟨g,0,rfl,(Array.getElem?_eq_some_iff.1 hg).1,λi x hx=>?_⟩⟩⟩
  have h2:=h.cells (g:=g) rfl i (.string x) (by rw [List.getElem?_map,hx];rfl)
  rwa [addr_add] at h2
structure KW (V0 wr:World) (v:Value) (L:List ByteArray):Prop where
 own:wr.ownsRow 0 9 1 v L.length (L.map Value.string)
 hi:∀c,v.ownBlock=some c->V0.heap.size<=c
 kp:Kept (λc=>c < V0.heap.size) V0 wr
theorem KW.keep {V0 wr wx:World} {v:Value} {L:List ByteArray} (h:KW V0 wr v L) (k:Kept (λ_=>True) wr wx):KW V0 wx v L:=
 ⟨aj h.own k (λ_ _=>trivial),h.hi,h.kp.trans (k.mono (λ_ _ _=>trivial))⟩
theorem KW.grow {V0 wr V w3:World} {v:Value} {L:List ByteArray} {g cap:Nat} {s:ByteArray} (h:KW V0 wr v L) (k:Kept (λ_=>True) wr V) (hO:w3.ownsRow 0 9 1 (.slice (some ⟨g,0,none⟩) (L.length+1) cap) (L.length+1) (L.map Value.string++[.string s])) (hG:V.grownBy w3 v.ownBlock) (hat:v.ownBlock=some g∨g=V.heap.size):
  KW V0 w3 (.slice (some ⟨g,0,none⟩) (L.length+1) cap) (L++[s]):=by
 have h':=h.keep k;have kg:Kept (λc=>v.ownBlock≠some c) V w3:=Kept.grown hG (λc hc e=>e hc);have hz:=h'.kp.size;refine ⟨by simpa using hO,λc hc=>?_,h'.kp.trans (kg.mono (λc _ hc e=>by have:=h.hi c e;omega))⟩;have e:g=c:=Option.some.inj hc;subst e;rcases hat with e | e
 .exact h.hi g e
 .omega
theorem KW.empty (W:World):KW W (W.alloc (.cells #[] 9)) (.slice (some ⟨W.heap.size,0,none⟩) 0 0) []:=
 ⟨⟨rfl,.inr ⟨W.heap.size,0,#[],rfl,Nat.zero_le _,(MapKept.heap_alloc W _).1,Nat.le_refl _,Nat.zero_le _,rfl,rfl⟩⟩,λc hc=>by have e:W.heap.size=c:=Option.some.inj hc;omega,Kept.alloc _ _ _⟩
theorem O4 {x:Fo} (hx:Fit E x (E 2)) (q:Fo):∃(au:ByteArray) (ca:Option Addr) (cn cc:Nat) (ck y:Fo),x=.v (.string au) (.s ca cn cc ck y)∧au.size<=maxLen∧Fit E ck (rep (E 1) cn)∧Fit E y (E 3)∧(aV (x.app q)).cons=au ::(aV q).cons∧((aV (x.app q)).ry↔bC (eU ck)∧(aV q).ry)∧(aV (x.app q)).len=(aV q).len+1:=by
 obtain ⟨au,ca,cn,cc,ck,y,rfl,hcs,h1,hy⟩:=aK hx;refine ⟨au,ca,cn,cc,ck,y,rfl,hcs,h1,hy,?_⟩;obtain ⟨k,nm,mn,la,ln,lc,lk,na,nn,nc,nk,ka,kn,kc,kk,aa,an,ac,ak,rfl,-⟩:=ag hy;simp only [Fo.app];rw [oH];exact ⟨rfl,Iff.rfl,rfl⟩
theorem kz:∀(n:Nat) (F:Fo),Fit E F (rep (E 2) n)->(aV F).len=n
 | 0,F,h=>by rw [ai h,gY];rfl
 | n+1,F,h=>by
  obtain ⟨x,q,rfl,hx,hq,-⟩:=Fit.split (fs:=E 2) (gs:=rep (E 2) n) h;obtain ⟨au,ca,cn,cc,ck,y,-,-,-,-,-,-,e⟩:=O4 hx q;rw [e,kz n q hq]
theorem pJ:∀(n:Nat) (F:Fo),Fit E F (rep (E 3) n)->(di F).len=n
 | 0,F,h=>by rw [ai h,dB];rfl
 | n+1,F,h=>by
  obtain ⟨x,q,rfl,hx,hq,-⟩:=Fit.split (fs:=E 3) (gs:=rep (E 3) n) h;obtain ⟨k,nm,mn,la,ln,lc,lk,na,nn,nc,nk,ka,kn,kc,kk,aa,an,ac,ak,rfl,-⟩:=ag hx;simp only [Fo.app];rw [eT];simp only [Tm.len,pJ n q hq]
theorem FQ {y:ByteArray} (h:¬y.toList=[]):y.toList.isEmpty=false∧(y.toList==[])=false:=by
 cases hh:y.toList with
 | nil=>exact absurd hh h
 | cons _ _=>exact ⟨rfl,rfl⟩
theorem Ws (nm:ByteArray) (la na ka aa:Option Addr) (lc nc kn kc an ac:Nat) (ak:Fo) (W:World) (nb:Nat) (hnb:nb<=W.heap.size) (ed:an<=1048576) (hak:Fit E ak (rep (E 2) an)) (hsa:ak.Sub W (λb=>b < nb) aa an ac) (q:Bool) (hq:(∀c∈(aV ak).cons,¬c=⟨#[]⟩)∧(aV ak).ry∧(aV ak).cons.Nodup↔q=true) (hk:(kn=1∧((an:Int)==0)=false)∨kn=2):
  Calls Tryz.prog 61 #[.agg #[.int .i64 8,.string nm,.bool false,.slice la 0 lc,.slice na 0 nc,.slice ka kn kc,.slice aa an ac]] W λe W'=>e=.returned (.bool q)∧Below W.heap.size W W':=by
 have HQ:=hide hq;obtain ⟨V0,bE⟩:∃V,W.alloc (.cells #[.int .i64 8,.string nm,.bool false,.slice la 0 lc,.slice na 0 nc,.slice ka kn kc,.slice aa an ac] 35)=V:=⟨_,rfl⟩
 have b0:Below W.heap.size W V0:=by rw [<- bE];exact below_alloc1 _ _
 have z0:V0.heap.size=W.heap.size+1:=by rw [<- bE];simp
 have q0:Bx V0 W.heap.size [.int .i64 8,.string nm,.bool false,.slice la 0 lc,.slice na 0 nc,.slice ka kn kc,.slice aa an ac]:=by rw [<- bE];exact Bx.new _ _ _
 have Ad:Hid (∀V,Kept (λc=>c < V0.heap.size) V0 V->Rd E (E 2) an nb aa 0 ak V):=λV k=>((Rd.start hak hsa).below b0 hnb).kept k (by omega) (λc hc=>by show c < _;omega)
 have ni:=hide (λ(V:World) (k:Kept (λc=>c < V0.heap.size) V0 V)=>q0.kept k (by show W.heap.size < _;omega));have mE:Hid (∀V,Kept (λc=>c < V0.heap.size) V0 V->Below W.heap.size W V):=λV k=>Below.kept b0 k (λc hc=>by show c < _;omega) (Nat.le_refl _)
 have mJ:Hid (KW V0 (V0.alloc (.cells #[] 9)) (.slice (some ⟨V0.heap.size,0,none⟩) 0 0) []):=KW.empty V0;have gP:=hide bE;have HB0:=hide b0;have Sw:Hid (nb<=V0.heap.size):=by show _<=_;omega
 clear bE b0 z0 q0 hq hsa hak hnb;have c5:=(ni.out V0 (Kept.refl _ _)).ae 5 _ rfl;have c6:=(ni.out V0 (Kept.refl _ _)).ae 6 _ rfl;have c3:=(ni.out V0 (Kept.refl _ _)).ae 3 _ rfl;have c4:=(ni.out V0 (Kept.refl _ _)).ae 4 _ rfl;have c2:=(ni.out V0 (Kept.refl _ _)).ae 2 _ rfl;have c0:=(ni.out V0 (Kept.refl _ _)).ae 0 _ rfl;rcases hk with ⟨rfl,ga⟩ | rfl
 all_goals
  go_enter Tryz.func61,Tryz.ntmps61
  go_upto_region 1 with fail
  rw [gP.out];clear gP
  go_upto_region 27 with fail
  generalize V0.alloc (.cells #[] 9)=V1 at *;generalize V0.heap.size=bz at mJ ⊢;go_wp2_with fail
  go_loopw [6,7] (λs6 s7 wr=>∃(i:Nat) (r:Fo) (L:List ByteArray) (a:Option Addr) (n c:Nat),s6=.slice a n c∧s7=.int .i64 i∧i<=an∧Hid (n=L.length∧L.length=i)∧Hid (L++(aV r).cons=(aV ak).cons∧((aV ak).ry↔(aV r).ry)∧∀c∈L,¬c=⟨#[]⟩)∧Hid (Rd E (E 2) an nb aa i r wr)∧Hid (KW V0 wr (.slice a n c) L)) (λ_ s7 _=>an - (intOf s7).toNat)
  case atStart=>exact ⟨0,ak,[],_,_,_,rfl,rfl,Nat.zero_le _,⟨rfl,rfl⟩,⟨rfl,Iff.rfl,λc hc=>absurd hc List.not_mem_nil⟩,Ad.out _ mJ.out.kp,mJ⟩
  case round=>
   clear c5 c6 c3 c4 c2 c0 mJ;obtain ⟨i,r,L,xA,n,c,rfl,rfl,hin,hlen,hinv,iT,hKW⟩:=hrel;have c6:=(ni.out wr hKW.out.kp).ae 6 _ rfl
   by_cases hi:i < an
   .obtain ⟨x,rr,b,o,rfl,hx,rfl,hb,hc,hxs,dx⟩:=iT.out.next hi (by decide)
    obtain ⟨au,ca,cn,cc,ck,y,rfl,hcz,hck,-,e1,e2,-⟩:=O4 hx rr;obtain ⟨g1,g2,g3⟩:=hinv.out;rw [e1] at g1;rw [e2] at g2;have hii:(i:Int) < an:=by omega
    have HNZ:=Sw.out;have HKZ:=hKW.out.kp.size;have HP:Hid (∀V,Below wr.heap.size wr V->V.cell? ⟨b,o+i * 9,none⟩=some (.string au)∧V.cell? ⟨W.heap.size,6,none⟩=some (.slice (some ⟨b,o,none⟩) an ac)):=λV bV=>⟨(hc.below bV (by omega)) 0 _ rfl,(ni.out V (hKW.out.kp.trans (kt bV))).ae 6 _ rfl⟩
    have p0:=(HP.out wr (Below.refl _ _)).1;have p1:wr.cell? ⟨b,o+i * 9+1,none⟩=some (.slice ca cn cc):=hc 1 _ rfl;obtain ⟨pR,hln⟩:=CX hck hxs.1;obtain ⟨q2,hq2⟩:∃q2:Bool,q2=true↔bC (eU ck):=by
     by_cases h:bC (eU ck)
     .exact ⟨true,by simp [h]⟩
     .exact ⟨false,by simp [h]⟩
    have HC:=hide (Az ca cc (eU ck) wr nb (by omega) pR q2 hq2);rw [hln] at HC;have eO:=hide hq2;have gz:=hide g1;have HG2:=hide g2;have lK:=hide g3;have HR1:=hide dx;clear hc hxs hx hck pR hln hq2 g1 g2 g3 dx e1 e2 hinv iT HNZ HKZ
    by_cases g:au.toList=[]
    .have HF:Hid (q=false):=by
      cases hqq:q with
      | false=>rfl
      | true=>exact absurd ((bJ au).1 g) ((HQ.out.2 hqq).1 au (by rw [<- gz.out];simp))
     have g':au.toList.isEmpty=true:=by rw [g];rfl
     clear HC gz;go_wp2_with fail;go_ret;exact ⟨by rw [HF.out];rfl,mE.out wr hKW.out.kp⟩
    .obtain ⟨ga1,ga2⟩:=FQ g
     go_wp2_with fail;refine HC.out.mono ?_;rintro e w1 ⟨rfl,b1⟩;clear HC;have fU:=hide (hKW.out.keep (kt b1))
     cases q2 with
     | false=>
      have HF:Hid (q=false):=by
       cases hqq:q with
       | false=>rfl
       | true=>
        have h1:=HG2.out.1 (HQ.out.2 hqq).2.1;exact absurd (eO.out.2 h1.1) (by simp)
      exact zz217
     | true=>
      obtain ⟨p2,p3⟩:=HP.out w1 b1;have xg:=hide (HR1.out.below b1 (by have:=Sw.out;have:=hKW.out.kp.size;omega));obtain ⟨V5,mZ⟩:∃V,w1.alloc (.cells #[.string au] 9)=V:=⟨_,rfl⟩
      have k5:Kept (λ_=>True) w1 V5:=by rw [<- mZ];exact Kept.alloc _ _ _
      have qm:Hid (V5.heap[w1.heap.size]? =some (.cells [Value.string au].toArray 9)):=by unfold Hid;rw [<- mZ];exact (MapKept.heap_alloc w1 _).1
      have e1:=hlen.out.1;have GL:Hid (V5.ownsRow 0 9 1 (.slice xA n c) n (L.map Value.string)):=by
       have h:=(fU.out.keep k5).own;rw [<- e1] at h;exact h
      have yU:Hid (n+1<=maxLen∧(n+1)* 16<=140737488355328):=by
       have h:=hlen.out.2;unfold Hid maxLen;omega
      have yV:Hid (∀g5 q5 w5,w5.ownsRow 0 9 1 (.slice (some ⟨g5,0,none⟩) (n+1) q5) (n+1) (L.map Value.string++[.string au])->V5.grownBy w5 (Value.slice xA n c).ownBlock->((Value.slice xA n c).ownBlock=some g5∨g5=V5.heap.size)->KW V0 w5 (.slice (some ⟨g5,0,none⟩) (n+1) q5) (L++[au])∧Rd E (E 2) an nb (some ⟨b,o,none⟩) (i+1) rr w5):=λg5 q5 w5 hO hG hat=>by
       have h:=KW.grow (g:=g5) (cap:=q5) (s:=au) fU.out k5 (by rw [<- e1];exact hO) hG hat;rw [<- e1] at h;refine ⟨h,xg.out.kept (k5.mono (λc _ (_:c < nb)=>trivial) |>.trans (Kept.grown hG (λc' hc' hlt=>?_))) (by have:=Sw.out;have:=fU.out.kp.size;omega) (λc hc=>hc)⟩
       have:=fU.out.hi c' hc'
       have:=Sw.out
       omega
      have O6:Hid (n+1=(L++[au]).length∧(L++[au]).length=i+1):=by
       have h:=hlen.out;refine ⟨by simp;omega,by simp;omega⟩
      have O7:Hid ((L++[au])++(aV rr).cons=(aV ak).cons∧((aV ak).ry↔(aV rr).ry)∧∀c∈L++[au],¬c=⟨#[]⟩):=by
       refine ⟨by rw [<- gz.out];simp,⟨λh=>(HG2.out.1 h).2,λh=>HG2.out.2 ⟨eO.out.1 rfl,h⟩⟩,λc hc=>?_⟩;rcases List.mem_append.1 hc with h | h
       .exact lK.out c h
       .rw [List.mem_singleton.1 h]
        exact λe=>g ((bJ au).2 e)
      have HV5:=hide mZ;clear b1 mZ k5 e1 gz HG2 lK hlen p0 p1;go_wp2_with (at_builtin;rw [HV5.out];refine iB rfl _ _ 25 9 rfl Tryz.info9 Tryz.underlying25 rfl (by decide) 0 V5 (.slice xA n c) n (L.map Value.string) [.string au] w1.heap.size 1 rfl rfl (Nat.zero_le _) GL.out qm.out rfl (by simp [Value.oneCell']) yU.out.1 yU.out.2 ?_;rintro g5 q5 w5 yX yY vk;have o8:=hide (yV.out g5 q5 w5 yX yY vk);clear yX yY vk);go_roundw
      case rel=>exact ⟨i+1,rr,L++[au],_,_,_,rfl,by go_num,by omega,O6,O7,o8.out.2,o8.out.1⟩
      case measure=>simp [intOf];omega
   .obtain ⟨rfl,rfl⟩:=iT.out.done hi
    obtain ⟨g1,g2,g3⟩:=hinv.out;rw [gY] at g1 g2;simp only [Tm.cons,List.append_nil] at g1;obtain ⟨q2,hq2⟩:∃q2:Bool,q2=true↔¬L.Nodup:=by
     exact zz231
    have HF:Hid ((!q2)=q):=by
     show (!q2)=q;have h1:=HQ.out;rw [<- g1] at h1
     by_cases hL:L.Nodup
     .rw [h1.1 ⟨g3,g2.2 trivial,hL⟩]
      cases q2 with
      | false=>rfl
      | true=>exact absurd hL (hq2.1 rfl)
     .rw [hq2.2 hL]
      cases hqq:q with
      | false=>rfl
      | true=>exact absurd (h1.2 hqq).2.2 hL
    have AL:Hid (Calls Tryz.prog 97 #[.slice xA n c] wr λe W'=>e=.returned (.bool q2)∧Below wr.heap.size wr W'):=by
     have h:=hKW.out.own;have e:=hlen.out.1;obtain ⟨a',c',e',-,hs⟩:=JS h
     cases e'
     rw [e];exact FH xA c L wr wr.heap.size (Nat.le_refl _) hs q2 hq2
    clear g1 g2 g3 hq2 hinv iT hlen;have hii:¬(i:Int) < i:=by omega
    go_wp2_with fail;refine AL.out.mono ?_;rintro e w1 ⟨rfl,b1⟩;have fU:=hide (hKW.out.keep (kt b1));clear b1 AL;go_wp2_with fail;go_ret;exact ⟨by rw [<- HF.out];rfl,mE.out w1 fU.out.kp⟩
theorem YS (nm:ByteArray) (mn:Bool) (la na ka aa:Option Addr) (lc nc kn kc an ac:Nat) (lm:List Int) (ns:List ByteArray) (ak:Fo) (W:World) (nb:Nat) (hnb:nb<=W.heap.size) (hl:LR W (λb=>b < nb) la lc lm) (hn:SR W (λb=>b < nb) na nc ns) (hkn:kn<=maxLen) (ed:an<=1048576) (hak:Fit E ak (rep (E 2) an)) (hsa:ak.Sub W (λb=>b < nb) aa an ac) (q:Bool) (hq:q=true↔fA ⟨⟨#[]⟩,[],8,nm,mn,lm,ns⟩ kn (aV ak)):
  Calls Tryz.prog 61 #[.agg #[.int .i64 8,.string nm,.bool mn,.slice la lm.length lc,.slice na ns.length nc,.slice ka kn kc,.slice aa an ac]] W λe W'=>e=.returned (.bool q)∧Below W.heap.size W W':=by
 rw [Cv,kz an ak hak] at hq;obtain ⟨n3,aD⟩:∃n,n=lm.length:=⟨_,rfl⟩
 obtain ⟨n4,aC⟩:∃n,n=ns.length:=⟨_,rfl⟩
 have hx3:n3<=9223372036854775807:=by have h2:=hl.le;have h3:=hl.mx;simp only [maxLen] at h3;omega
 have hx4:n4<=9223372036854775807:=by have h2:=hn.le;have h3:=hn.mx;simp only [maxLen] at h3;omega
 have hx5:kn<=9223372036854775807:=hkn;rw [<- aD,<- aC];clear hl hn
 by_cases g0:0 < n3
 .have g0':(0:Int) < n3:=by omega
  exact zz16
 have e3:n3=0:=by omega
 have hlm:lm=[]:=List.length_eq_zero_iff.1 (by omega);subst e3
 cases mn with
 | true=>
  exact zz23
 | false=>
 by_cases g4:0 < n4
 .have g4':(0:Int) < n4:=by omega
  have HQ:Hid (q=false):=by
   cases hqq:q with
   | false=>rfl
   | true=>exact absurd (hq.1 hqq).2.2.1 (by intro e;rw [e] at aC;simp at aC;omega)
  exact zz65
 have e4:n4=0:=by omega
 have hns:ns=[]:=List.length_eq_zero_iff.1 (by omega);subst e4;have Pj:Hid ((kn=1∨kn=2)∧¬(kn=1∧an=0)∧(∀c∈(aV ak).cons,¬c=⟨#[]⟩)∧(aV ak).ry∧(aV ak).cons.Nodup↔q=true):=by
  unfold Hid;rw [hq];exact ⟨λh=>⟨hlm,rfl,hns,h⟩,λh=>h.2.2.2⟩
 clear hq aD aC hlm hns g0 g4
 by_cases g5:kn < 1
 .have HQ:Hid (q=false):=by
   exact zz237
  have e5:kn=0:=by omega
  clear g5;subst e5;exact zz2
 by_cases g6:2 < kn
 .have HQ:Hid (q=false):=by
   exact zz237
  have Cm:¬(kn:Int) < 1:=by omega
  have yI:(2:Int) < kn:=by omega
  have g7':¬kn=0:=by omega
  exact zz2
 by_cases g7:kn=1∧an=0
 .have HQ:Hid (q=false):=by
   cases hqq:q with
   | false=>rfl
   | true=>exact absurd g7 (Pj.out.2 hqq).2.1
  obtain ⟨rfl,rfl⟩:=g7;exact zz2
 have jh:Hid ((∀c∈(aV ak).cons,¬c=⟨#[]⟩)∧(aV ak).ry∧(aV ak).cons.Nodup↔q=true):=by
  unfold Hid;rw [<- Pj.out];exact ⟨λh=>⟨by omega,g7,h⟩,λh=>h.2.2⟩
 clear Pj;exact Ws nm la na ka aa lc nc kn kc an ac ak W nb hnb ed hak hsa q jh.out (by
  by_cases h:kn=1
  .exact .inl ⟨h,by rw [beq_eq_false_iff_ne];omega⟩
  .exact .inr (by omega))
theorem KS (k:Int) (nm:ByteArray) (mn:Bool) (la na ka aa:Option Addr) (ln lc nn nc kn kc an ac:Nat) (W:World) (hln:ln<=9223372036854775807) (_hnn:nn<=9223372036854775807) (_hkn:kn<=9223372036854775807) (ed:an<=9223372036854775807) (h1:(k==1)=false) (h2:(k==2)=false) (h3:(k==3)=false) (h4:(k==4)=false) (h5:(k==5)=false) (h6:(k==6)=false) (h7:(k==7)=false) (h8:(k==8)=false) (h9:(k==9)=false) (h10:(k==10)=false):
  Calls Tryz.prog 61 #[.agg #[.int .i64 k,.string nm,.bool mn,.slice la ln lc,.slice na nn nc,.slice ka kn kc,.slice aa an ac]] W λe W'=>e=.returned (.bool false)∧Below W.heap.size W W':=by
 have HB:=hide (below_alloc1 W (.cells #[.int .i64 k,.string nm,.bool mn,.slice la ln lc,.slice na nn nc,.slice ka kn kc,.slice aa an ac] 35));have n2:(k !=2)=true:=by rw [bne,h2];rfl
 have n6:(k !=6)=true:=by rw [bne,h6];rfl
 have n7:(k !=7)=true:=by rw [bne,h7];rfl
 have n8:(k !=8)=true:=by rw [bne,h8];rfl
 go_enter Tryz.func61,Tryz.ntmps61;go_wp2_with fail
 all_goals
  go_ret;exact ⟨rfl,below_alloc1 _ _⟩
theorem Vp (nm:ByteArray) (mn:Bool) (la na ka aa:Option Addr) (lc nc kn kc an ac:Nat) (lm:List Int) (ns:List ByteArray) (al:Tm) (W:World) (nb:Nat) (_hnb:nb<=W.heap.size) (hl:LR W (λb=>b < nb) la lc lm) (hn:SR W (λb=>b < nb) na nc ns) (hkn:kn<=maxLen) (ed:an<=maxLen) (hal:al.len=an) (hnm:nm.size<=maxLen) (q:Bool) (hq:q=true↔fA ⟨⟨#[]⟩,[],10,nm,mn,lm,ns⟩ kn al):
  Calls Tryz.prog 61 #[.agg #[.int .i64 10,.string nm,.bool mn,.slice la lm.length lc,.slice na ns.length nc,.slice ka kn kc,.slice aa an ac]] W λe W'=>e=.returned (.bool q)∧Below W.heap.size W W':=by
 rw [Jv] at hq;obtain ⟨n3,aD⟩:∃n,n=lm.length:=⟨_,rfl⟩
 obtain ⟨n4,aC⟩:∃n,n=ns.length:=⟨_,rfl⟩
 have hx3:n3<=9223372036854775807:=by have h2:=hl.le;have h3:=hl.mx;simp only [maxLen] at h3;omega
 have hx4:n4<=9223372036854775807:=by have h2:=hn.le;have h3:=hn.mx;simp only [maxLen] at h3;omega
 have hx5:kn<=9223372036854775807:=hkn;have hx6:an<=9223372036854775807:=ed;have hx1:nm.size<=9223372036854775807:=hnm;have HB:=hide (below_alloc1 W (.cells #[.int .i64 10,.string nm,.bool mn,.slice la n3 lc,.slice na n4 nc,.slice ka kn kc,.slice aa an ac] 35));rw [<- aD,<- aC];clear hl;clear hn
 by_cases g0:0 < n3
 .have g0':(0:Int) < n3:=by omega
  exact zz16
 have e3:n3=0:=by omega
 have hlm:lm=[]:=List.length_eq_zero_iff.1 (by omega);subst e3
 cases mn with
 | true=>
  exact zz23
 | false=>
 by_cases g6:0 < an
 .have yI:(0:Int) < an:=by omega
  exact zz26
 have e6:an=0:=by omega
 subst e6
 by_cases g4:0 < n4
 .have g4':(0:Int) < n4:=by omega
  exact zz30
 have e4:n4=0:=by omega
 have hns:ns=[]:=List.length_eq_zero_iff.1 (by omega);subst e4
 by_cases g1:nm.toList=[]
 .have g1':nm.toList.isEmpty=true:=by rw [g1];rfl
  exact zz148
 have D9:nm.toList.isEmpty=false:=by cases hh:nm.toList with
  | nil=>exact absurd hh g1
  | cons _ _=>rfl
 have yJ:(nm.toList==[])=false:=by cases hh:nm.toList with
  | nil=>exact absurd hh g1
  | cons _ _=>rfl
 have OC:¬nm=⟨#[]⟩:=λh=>g1 ((bJ nm).2 h)
 by_cases g7:¬nm.size<=60000
 .have g7':¬(nm.size:Int)<=60000:=by omega
  have HQ:Hid (q=false):=by
   cases hqq:q with
   | false=>rfl
   | true=>exact absurd (hq.1 hqq).2.2.2.2.2.1 (by exact g7)
  clear hq aD aC g7;exact zz2
 have g7a:(nm.size:Int)<=60000:=by omega
 clear g7
 by_cases g5:¬kn=0
 .have Cm:((kn:Int)==0)=false:=by rw [beq_eq_false_iff_ne];omega
  have Gw:¬(kn:Int)=0:=by omega
  have HQ:Hid (q=false):=by
   cases hqq:q with
   | false=>rfl
   | true=>exact absurd (hq.1 hqq).2.2.2.2.2.2 (by exact g5)
  clear hq aD aC g5;exact zz2
 have e5:kn=0:=by omega
 clear g5;subst e5;have HQ:Hid (q=true):=hq.2 ⟨hlm,rfl,by omega,hns,OC,by omega,rfl⟩;exact zz65
end Go.Proofs.YthfnobboalhihaaGreat.C
