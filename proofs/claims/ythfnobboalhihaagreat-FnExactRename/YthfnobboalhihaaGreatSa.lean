import Derived.Test.YthfnobboalhihaaGreatCi
import Derived.Deep.RegionLaw
set_option maxHeartbeats 4000000
set_option maxRecDepth 100000
namespace Go.Proofs.YthfnobboalhihaaGreat.C
open Go.RowKit Go.Joins
def rE (t:Tm):Prop:=(t.cnt<=20000∧t.dep<=1000)∧t.good
def WN (t:Tm) (W:World) (e:Ending) (W':World):Prop:=∃c:Int,e=.returned (.int .i64 c)∧(c=0↔rE t)∧Below W.heap.size W W'
theorem Ox (F:Fo) (W:World) (hf:Fit E F (E 3)) (hwt:F.wt<=1048576) (hs:F.av W (λc=>c < W.heap.size)):
  Calls Tryz.prog 15 #[.agg F.vals.toArray] W (WN (di F) W):=by
 have hsz:=Fg F.size F W.heap.size;have hsh:=BX F.size F W.heap.size;obtain ⟨q2,hq2⟩:=truth (di F).good;obtain ⟨T,hT⟩:∃T,di F=T:=⟨_,rfl⟩
 rw [hT] at hsz hsh hq2 ⊢;obtain ⟨V0,bE⟩:∃V,W.alloc (.cells F.vals.toArray 35)=V:=⟨_,rfl⟩
 have b0:Below W.heap.size W V0:=by rw [<- bE];exact below_alloc1 _ _
 have z0:V0.heap.size=W.heap.size+1:=by rw [<- bE];simp
 have q0:Bx V0 W.heap.size F.vals:=by rw [<- bE];exact Bx.new _ _ _
 obtain ⟨V1,hV1⟩:∃V,V0.alloc (.cells #[.int .i64 20000] 2)=V:=⟨_,rfl⟩
 have b1:Below V0.heap.size V0 V1:=by
  rw [<- hV1];exact below_alloc1 _ _
 have n1:mH V1 V0.heap.size 20000:=by
  rw [<- hV1];exact ⟨by simp,by simp,by simp⟩
 have bW:Below W.heap.size W V1:=b0.trans (b1.mono b0.size);have fQ:=hide (hsz V1 1 20000 V0.heap.size (Nat.le_refl _) hf (by omega) hwt (hs.below bW (λ_ h=>h)) n1 (by omega) (by omega) (by omega));have iJ:Hid (∀V,Below W.heap.size W V->Calls Tryz.prog 41 #[.agg F.vals.toArray] V λe W'=>e=.returned (.bool q2)∧Below V.heap.size V W'):=λV bV=>hsh V q2 (Nat.le_refl _) hf bV.size hwt (hs.below bV (λ_ h=>h)) hq2
 have HE:=hide (Tm.DT T 1 20000 (by omega) (by omega));have eO:=hide hq2;have Di:Hid (∀V,Kept (λc=>c≠V0.heap.size) V1 V->Bx V W.heap.size F.vals):=λV k=>(q0.below b1).kept k (by show W.heap.size≠_;omega)
 have mE:Hid (∀V,Kept (λc=>c≠V0.heap.size) V1 V->Below W.heap.size W V):=λV k=>Below.kept bW k (λc hc=>by show c≠_;omega) (Nat.le_refl _)
 obtain ⟨k,nm,mn,la,ln,lc,lk,na,nn,nc,nk,ka,kn,kc,kk,aa,an,ac,ak,rfl,-⟩:=ag hf;simp only [Fo.vals] at fQ iJ Di bE ⊢;have gP:=hide bE;have gD:=hide hV1;have HC:Hid (∀V,Kept (λc=>c≠V0.heap.size) V1 V->V.cell? ⟨W.heap.size,0,none⟩=some (.int .i64 k)∧V.cell? ⟨W.heap.size,1,none⟩=some (.string nm)∧V.cell? ⟨W.heap.size,2,none⟩=some (.bool mn)∧V.cell? ⟨W.heap.size,3,none⟩=some (.slice la ln lc)∧V.cell? ⟨W.heap.size,4,none⟩=some (.slice na nn nc)∧V.cell? ⟨W.heap.size,5,none⟩=some (.slice ka kn kc)∧V.cell? ⟨W.heap.size,6,none⟩=some (.slice aa an ac)):=λV k=>
  have h:=Di.out V k
  ⟨h.ae 0 _ rfl,h.ae 1 _ rfl,h.ae 2 _ rfl,h.ae 3 _ rfl,h.ae 4 _ rfl,h.ae 5 _ rfl,h.ae 6 _ rfl⟩
 obtain ⟨c0,c1,c2,c3,c4,c5,c6⟩:=HC.out V1 (Kept.refl _ _);clear hsz hsh hf hwt hs bE hV1 b0 b1 n1 bW q0 z0 hq2 hT Di;go_enter Tryz.func15,Tryz.ntmps15
 go_upto_region 1 with fail
 rw [gP.out]
 go_upto_region 2 with fail
 rw [gD.out];clear gP gD;go_wp2_with fail;refine fQ.out.mono ?_;clear fQ c0 c1 c2 c3 c4 c5 c6;rintro e w1 ⟨q,rfl,Aq,xc,k1⟩;have fU:=hide k1
 cases q with
 | false=>
  have HF:Hid ((1:Int)=0↔rE T):=by
   have h1:=xc rfl;rw [HE.out] at h1;refine ⟨λh=>by omega,λh=>?_⟩;rw [if_pos ⟨by have:=h.1;omega,by have:=h.1;omega⟩] at h1
   cases h1
  clear Aq xc k1;go_wp2_with fail;go_ret;exact ⟨1,rfl,HF.out,mE.out w1 fU.out⟩
 | true=>
  have HG:Hid (T.cnt<=20000∧T.dep<=1000):=by
   obtain ⟨L',h1,-⟩:=Aq rfl;rw [HE.out] at h1
   by_cases g:(T.cnt:Int)<=20000∧1+T.dep<=1001
   .exact ⟨by omega,by omega⟩
   .rw [if_neg g] at h1;cases h1
  obtain ⟨c0,c1,c2,c3,c4,c5,c6⟩:=HC.out w1 fU.out;have mK:=hide (iJ.out w1 (mE.out w1 fU.out));clear Aq xc k1 iJ HE;go_wp2_with fail;refine mK.out.mono ?_;clear mK c0 c1 c2 c3 c4 c5 c6;rintro e w2 ⟨rfl,b2⟩;have HB2:Hid (Below W.heap.size W w2):=(mE.out w1 fU.out).trans (b2.mono (mE.out w1 fU.out).size)
  cases q2 with
  | false=>
   have HF:Hid ((2:Int)=0↔rE T):=⟨λh=>by omega,λh=>absurd (eO.out.2 h.2) (by simp)⟩
   clear b2;go_wp2_with fail;go_ret;exact ⟨2,rfl,HF.out,HB2.out⟩
  | true=>
   have HF:Hid (rE T):=⟨HG.out,eO.out.1 rfl⟩
   clear b2;go_wp2_with fail;go_ret;exact ⟨0,rfl,⟨λ_=>HF.out,λ_=>rfl⟩,HB2.out⟩
end Go.Proofs.YthfnobboalhihaaGreat.C
namespace Go.Proofs.YthfnobboalhihaaGreat
open Go.RowKit Go.Joins
theorem zz117 {P:Prop} (h:P:=by
 have e1:=hn.out;rw [<- UJ.out] at hO;have h:=PW.grow (g:=g5) (cap:=q5) (s:=y) hP.out k5 (by rw [<- e1];exact hO) hG;rw [<- e1] at h;rw [e];exact ⟨by rw [List.length_append,<- e1];rfl,h⟩):P:=h
theorem zz205 {P:Prop} (h:P:=by
 have h:=aj hP.out.own (kt (S:=λ_=>True) k5) (λ_ _=>trivial);rw [<- hn.out] at h;exact h):P:=h
end Go.Proofs.YthfnobboalhihaaGreat
namespace Go.Proofs.YthfnobboalhihaaGreat.C
open Go.RowKit Go.Joins
structure Nd where
 b:Nat
 o:Nat
 x:Fo
def Nd.ptr (d:Nd):Value:=.pointer (some ⟨d.b,d.o,none⟩)
def aS (b:Nat):Nat->Fo->List Nd
 | o,.v k (.v nm (.v mn (.s la ln lc lk (.s na nn nc nk (.s ka kn kc kk (.s aa an ac ak r))))))=>⟨b,o,.v k (.v nm (.v mn (.s la ln lc lk (.s na nn nc nk (.s ka kn kc kk (.s aa an ac ak .nil))))))⟩::aS b (o+7) r
 | _,_=>[]
def aJ (b:Nat):Nat->Fo->List Nd
 | o,.v _ (.s _ _ _ _ (.v k (.v nm (.v mn (.s la ln lc lk (.s na nn nc nk (.s ka kn kc kk (.s aa an ac ak r))))))))=>⟨b,o+2,.v k (.v nm (.v mn (.s la ln lc lk (.s na nn nc nk (.s ka kn kc kk (.s aa an ac ak .nil))))))⟩::aJ b (o+9) r
 | _,_=>[]
def eP (a:Option Addr) (F:Fo):List Nd:=match a with
 | some p=>aS p.block p.off F
 | none=>[]
def fC (a:Option Addr) (F:Fo):List Nd:=match a with
 | some p=>aJ p.block p.off F
 | none=>[]
def Nd.kids (d:Nd):List Nd:=match d.x with
 | .v _ (.v _ (.v _ (.s _ _ _ _ (.s _ _ _ _ (.s ka _ _ kk (.s aa _ _ ak _))))))=>eP ka kk++fC aa ak
 | _=>[]
structure Nd.Ok (W:World) (S:Nat->Prop) (d:Nd):Prop where
 fit:Fit E d.x (E 3)
 ae:bD W d.x.vals d.b d.o
 subs:d.x.av W S
 at_:S d.b
theorem Nd.Ok.kept {A B:World} {S T:Nat->Prop} {d:Nd} (h:d.Ok A S) (k:Kept T A B) (hS:∀b,S b->T b∧b < A.heap.size):d.Ok B S:=
 ⟨h.fit,h.ae.kept k (hS _ h.at_).2 (hS _ h.at_).1,h.subs.kept k hS,h.at_⟩
theorem uZ {W:World} {S:Nat->Prop} {b:Nat} (hb:S b):∀(n:Nat) (o:Nat) (F:Fo),Fit E F (rep (E 3) n)->bD W F.vals b o->F.av W S->(aS b o F).length=n∧(∀i d,(aS b o F)[i]? =some d->d.b=b∧d.o=o+i * 7)∧∀d∈aS b o F,d.Ok W S
 | 0,o,F,h,_,_=>by
  exact zz226
 | n+1,o,F,h,hc,hs=>by
  exact zz29
theorem ve {W:World} {S:Nat->Prop} {b:Nat} (hb:S b):∀(n:Nat) (o:Nat) (F:Fo),Fit E F (rep (E 2) n)->bD W F.vals b o->F.av W S->(aJ b o F).length=n∧(∀i d,(aJ b o F)[i]? =some d->d.b=b∧d.o=o+i * 9+2)∧∀d∈aJ b o F,d.Ok W S
 | 0,o,F,h,_,_=>by
  exact zz227
 | n+1,o,F,h,hc,hs=>by
  exact zz22
theorem Jq {W:World} {S:Nat->Prop} {a:Option Addr} {n c:Nat} {F:Fo} (hf:Fit E F (rep (E 3) n)) (h:Fo.Sub W S a n c F):(eP a F).length=n∧(∀i d,(eP a F)[i]? =some d->∃b o,a=some ⟨b,o,none⟩∧d.b=b∧d.o=o+i * 7)∧∀d∈eP a F,d.Ok W S:=by
 by_cases hl:0 < F.len
 .obtain ⟨b,o,rfl,hb,hc,hs⟩:=h.2.2 hl
  obtain ⟨g1,g2,g3⟩:=uZ hb n o F hf hc hs;exact ⟨g1,λi d hd=>⟨b,o,rfl,g2 i d hd⟩,g3⟩
 .have e:=Fo.iD hl
  subst e;have e2:n=0:=by
   have:=Fit.len hf
   rw [dz] at this;have e3:(E 3).length=7:=rfl;rw [e3] at this;simp [Fo.len] at this;omega
  subst e2
  cases a with
  | none=>exact ⟨rfl,λi d hd=>by simp [eP] at hd,λd hd=>by simp [eP] at hd⟩
  | some p=>exact ⟨rfl,λi d hd=>by simp [eP,aS] at hd,λd hd=>by simp [eP,aS] at hd⟩
theorem Jr {W:World} {S:Nat->Prop} {a:Option Addr} {n c:Nat} {F:Fo} (hf:Fit E F (rep (E 2) n)) (h:Fo.Sub W S a n c F):(fC a F).length=n∧(∀i d,(fC a F)[i]? =some d->∃b o,a=some ⟨b,o,none⟩∧d.b=b∧d.o=o+i * 9+2)∧∀d∈fC a F,d.Ok W S:=by
 by_cases hl:0 < F.len
 .obtain ⟨b,o,rfl,hb,hc,hs⟩:=h.2.2 hl
  obtain ⟨g1,g2,g3⟩:=ve hb n o F hf hc hs;exact ⟨g1,λi d hd=>⟨b,o,rfl,g2 i d hd⟩,g3⟩
 .have e:=Fo.iD hl
  subst e;have e2:n=0:=by
   have:=Fit.len hf
   rw [dz] at this;have e3:(E 2).length=9:=rfl;rw [e3] at this;simp [Fo.len] at this;omega
  subst e2
  cases a with
  | none=>exact ⟨rfl,λi d hd=>by simp [fC] at hd,λd hd=>by simp [fC] at hd⟩
  | some p=>exact ⟨rfl,λi d hd=>by simp [fC,aJ] at hd,λd hd=>by simp [fC,aJ] at hd⟩
theorem Nd.Ed {W:World} {S:Nat->Prop} {d:Nd} (h:d.Ok W S):∀k∈d.kids,k.Ok W S:=by
 obtain ⟨hf,-,hs,-⟩:=h;obtain ⟨b,o,x⟩:=d;obtain ⟨k,nm,mn,la,ln,lc,lk,na,nn,nc,nk,ka,kn,kc,kk,aa,an,ac,ak,rfl,-,-,-,-,h5,h6⟩:=ag hf;obtain ⟨-,-,hs5,hs6,-⟩:=hs;intro y hy;rcases List.mem_append.1 hy with hy | hy
 .exact (Jq h5 hs5).2.2 y hy
 .exact (Jr h6 hs6).2.2 y hy
theorem Tryz.info55:(Tryz.prog.info? 55).map (λi=>(i.zero,i.size,i.bytes))=some (some (.pointer none),1,8):=by kernel_rfl
structure PW (V0 wr:World) (v:Value) (L:List Nd):Prop where
 own:wr.ownsRow V0.heap.size 55 1 v L.length (L.map Nd.ptr)
 kp:Below V0.heap.size V0 wr
theorem PW.grow {V0 wr V w3:World} {v:Value} {L:List Nd} {g cap:Nat} {s:Nd} (h:PW V0 wr v L) (k:Below wr.heap.size wr V) (hO:w3.ownsRow V0.heap.size 55 1 (.slice (some ⟨g,0,none⟩) (L.length+1) cap) (L.length+1) (L.map Nd.ptr++[s.ptr])) (hG:V.grownBy w3 v.ownBlock):
  PW V0 w3 (.slice (some ⟨g,0,none⟩) (L.length+1) cap) (L++[s]):=by
 have hlo:∀c,v.ownBlock=some c->V0.heap.size<=c:=λc hc=>(World.ownsRow.lt h.own c hc).1
 refine ⟨by simpa using hO,?_⟩;have k1:Kept (λc=>c < V0.heap.size) V w3:=Kept.grown hG (λc hc hlt=>by have:=hlo c hc;omega);exact Below.kept (h.kp.trans (k.mono h.kp.size)) k1 (λc hc=>hc) (Nat.le_refl _)
def BlP (L:List Nd) (W:World) (e:Ending) (W':World):Prop:=∃a c,e=.returned (.slice a L.length c)∧W'.ownsRow W.heap.size 55 1 (.slice a L.length c) L.length (L.map Nd.ptr)∧Below W.heap.size W W'
theorem vg (d:Nd) (W:World) (hd:d.Ok W (λc=>c < W.heap.size)) (hsz:d.x.size<=16777216):
  Calls Tryz.prog 64 #[d.ptr] W (BlP d.kids W):=by
 obtain ⟨b,o,x⟩:=d;obtain ⟨hf,hc,hs,hb⟩:=hd;obtain ⟨k,nm,mn,la,ln,lc,lk,na,nn,nc,nk,ka,kn,kc,kk,aa,an,ac,ak,rfl,-,-,-,-,h5,h6⟩:=ag hf;obtain ⟨-,-,hs5,hs6,-⟩:=hs;obtain ⟨e1,e2,-⟩:=Jq h5 hs5;obtain ⟨f1,f2,-⟩:=Jr h6 hs6;simp only [Fo.vals] at hc;simp only [Nd.kids,Nd.ptr];have HC:Hid (∀V,Below W.heap.size W V->V.cell? ⟨b,o+5,none⟩=some (.slice ka kn kc)∧V.cell? ⟨b,o+6,none⟩=some (.slice aa an ac)):=λV bV=>⟨(hc.below bV hb) 5 _ rfl,(hc.below bV hb) 6 _ rfl⟩
 obtain ⟨c5,c6⟩:=HC.out W (Below.refl _ _);have hkx:kn<=16777216∧an<=16777216:=by
  have g1:=Fit.len h5;have g2:=Fit.len h6;rw [dz] at g1 g2;have g3:(E 3).length=7:=rfl;have g4:(E 2).length=9:=rfl;rw [g3] at g1;rw [g4] at g2
  have:=kk.fJ
  have:=ak.fJ
  simp only [Fo.size] at hsz;omega
 obtain ⟨K,hK⟩:∃K,eP ka kk=K:=⟨_,rfl⟩
 obtain ⟨A,hA⟩:∃A,fC aa ak=A:=⟨_,rfl⟩
 rw [hK] at e1 e2;rw [hA] at f1 f2;rw [hK,hA];have iZ:=hide e1;have HE2:=hide e2;have Kv:=hide f1;have HF2:=hide f2;have aba:=hkx.1;have abb:=hkx.2;clear hc hf hs5 hs6 h5 h6 hsz e1 e2 f1 f2 hK hA hkx hb;go_enter Tryz.func64,Tryz.ntmps64;go_wp2_with fail
 go_loopw [3,11] (λs3 s11 wr=>∃(i n:Nat) (a:Option Addr) (c:Nat),s3=.slice a n c∧s11=.int .i64 i∧i<=kn∧Hid (n=(K.take i).length)∧Hid (PW W wr (.slice a n c) (K.take i))) (λ_ s11 _=>kn - (intOf s11).toNat)
 case atStart=>exact ⟨0,0,none,0,rfl,rfl,Nat.zero_le _,rfl,⟨⟨rfl,.inl ⟨rfl,rfl⟩⟩,Below.refl _ _⟩⟩
 case round=>
  obtain ⟨i,n,a,c,rfl,rfl,hin,hn,hP⟩:=hrel;clear c5 c6;obtain ⟨c5,c6⟩:=HC.out wr hP.out.kp
  by_cases hi:i < kn
  .have hii:(i:Int) < kn:=by omega
   obtain ⟨y,hy⟩:∃y,K[i]? =some y:=⟨_,List.getElem?_eq_getElem (by rw [iZ.out];exact hi)⟩
   obtain ⟨kb,ko,rfl,hyb,MB⟩:=HE2.out i y hy;have UJ:Hid (y.ptr=.pointer (some ⟨kb,ko+i * 7,none⟩)):=by unfold Hid Nd.ptr;rw [hyb,MB]
   have hnl:n=i:=by rw [hn.out,List.length_take,iZ.out];omega
   obtain ⟨V5,mZ⟩:∃V,wr.alloc (.cells #[.pointer (some ⟨kb,ko+i * 7,none⟩)] 55)=V:=⟨_,rfl⟩
   have k5:Below wr.heap.size wr V5:=by rw [<- mZ];exact below_alloc1 _ _
   have qm:Hid (V5.heap[wr.heap.size]? =some (.cells [Value.pointer (some ⟨kb,ko+i * 7,none⟩)].toArray 55)):=by unfold Hid;rw [<- mZ];exact (MapKept.heap_alloc wr _).1
   have GL:Hid (V5.ownsRow W.heap.size 55 1 (.slice a n c) n ((K.take i).map Nd.ptr)):=by
    exact zz205
   have bM:Hid (W.heap.size<=V5.heap.size):=Nat.le_trans hP.out.kp.size k5.size;have yU:Hid (n+1<=maxLen∧(n+1)* 8<=140737488355328):=by unfold Hid maxLen;omega
   have yV:Hid (∀g5 q5 w5,w5.ownsRow W.heap.size 55 1 (.slice (some ⟨g5,0,none⟩) (n+1) q5) (n+1) ((K.take i).map Nd.ptr++[.pointer (some ⟨kb,ko+i * 7,none⟩)])->V5.grownBy w5 (Value.slice a n c).ownBlock->n+1=(K.take (i+1)).length∧PW W w5 (.slice (some ⟨g5,0,none⟩) (n+1) q5) (K.take (i+1))):=λg5 q5 w5 hO hG=>by
    have e:K.take (i+1)=K.take i++[y]:=by rw [List.take_add_one,hy];rfl
    exact zz117
   have HV5:=hide mZ;clear mZ k5 hy hyb MB hnl;go_wp2_with (at_builtin;rw [HV5.out];refine iB rfl _ _ 113 55 rfl Tryz.info55 Tryz.underlying113 rfl (by decide) W.heap.size V5 (.slice a n c) n ((K.take i).map Nd.ptr) [.pointer (some ⟨kb,ko+i * 7,none⟩)] wr.heap.size 1 rfl rfl bM.out GL.out qm.out rfl (by simp [Value.oneCell']) yU.out.1 yU.out.2 ?_;rintro g5 q5 w5 yX yY vk;have o8:=hide (yV.out g5 q5 w5 yX yY);clear yX yY vk);go_roundw
   case rel=>exact ⟨i+1,n+1,_,_,rfl,by go_num,by omega,o8.out.1,o8.out.2⟩
   case measure=>simp [intOf];omega
  .have hik:i=kn:=by omega
   have qZ:Hid (n=K.length∧PW W wr (.slice a n c) K):=by
    have h1:=hn.out;have h2:=hP.out;rw [List.take_of_length_le (by rw [iZ.out];omega)] at h1 h2;exact ⟨h1,h2⟩
   have hji:¬(i:Int) < kn:=by omega
   clear hP hn;go_wp2_with fail
   go_loopw [3,29] (λs3 UK wr=>∃(i1 n:Nat) (a:Option Addr) (c:Nat),s3=.slice a n c∧UK=.int .i64 i1∧i1<=an∧Hid (n=(K++A.take i1).length)∧Hid (PW W wr (.slice a n c) (K++A.take i1))) (λ_ UK _=>an - (intOf UK).toNat)
   case atStart=>exact ⟨0,n,a,c,rfl,rfl,Nat.zero_le _,by show _=_;rw [List.take_zero,List.append_nil];exact qZ.out.1,by show PW _ _ _ _;rw [List.take_zero,List.append_nil];exact qZ.out.2⟩
   case round=>
    clear c5 c6 qZ;obtain ⟨i1,n,a,c,rfl,rfl,hin1,hn,hP⟩:=hrel;obtain ⟨c5,c6⟩:=HC.out wr hP.out.kp
    by_cases hi1:i1 < an
    .have hii:(i1:Int) < an:=by omega
     obtain ⟨y,hy⟩:∃y,A[i1]? =some y:=⟨_,List.getElem?_eq_getElem (by rw [Kv.out];exact hi1)⟩
     obtain ⟨kb,ko,rfl,hyb,MB⟩:=HF2.out i1 y hy;have UJ:Hid (y.ptr=.pointer (some ⟨kb,ko+i1 * 9+2,none⟩)):=by unfold Hid Nd.ptr;rw [hyb,MB]
     have hnl:n<=33554432:=by rw [hn.out,List.length_append,List.length_take,iZ.out,Kv.out];omega
     obtain ⟨V5,mZ⟩:∃V,wr.alloc (.cells #[.pointer (some ⟨kb,ko+i1 * 9+2,none⟩)] 55)=V:=⟨_,rfl⟩
     have k5:Below wr.heap.size wr V5:=by rw [<- mZ];exact below_alloc1 _ _
     have qm:Hid (V5.heap[wr.heap.size]? =some (.cells [Value.pointer (some ⟨kb,ko+i1 * 9+2,none⟩)].toArray 55)):=by unfold Hid;rw [<- mZ];exact (MapKept.heap_alloc wr _).1
     have GL:Hid (V5.ownsRow W.heap.size 55 1 (.slice a n c) n ((K++A.take i1).map Nd.ptr)):=by
      exact zz205
     have bM:Hid (W.heap.size<=V5.heap.size):=Nat.le_trans hP.out.kp.size k5.size;have yU:Hid (n+1<=maxLen∧(n+1)* 8<=140737488355328):=by unfold Hid maxLen;omega
     have yV:Hid (∀g5 q5 w5,w5.ownsRow W.heap.size 55 1 (.slice (some ⟨g5,0,none⟩) (n+1) q5) (n+1) ((K++A.take i1).map Nd.ptr++[.pointer (some ⟨kb,ko+i1 * 9+2,none⟩)])->V5.grownBy w5 (Value.slice a n c).ownBlock->n+1=(K++A.take (i1+1)).length∧PW W w5 (.slice (some ⟨g5,0,none⟩) (n+1) q5) (K++A.take (i1+1))):=λg5 q5 w5 hO hG=>by
      have e:K++A.take (i1+1)=K++A.take i1++[y]:=by rw [List.take_add_one,hy,List.append_assoc];rfl
      exact zz117
     have HV5:=hide mZ;clear mZ k5 hy hyb MB hnl;go_wp2_with (at_builtin;rw [HV5.out];refine iB rfl _ _ 113 55 rfl Tryz.info55 Tryz.underlying113 rfl (by decide) W.heap.size V5 (.slice a n c) n ((K++A.take i1).map Nd.ptr) [.pointer (some ⟨kb,ko+i1 * 9+2,none⟩)] wr.heap.size 1 rfl rfl bM.out GL.out qm.out rfl (by simp [Value.oneCell']) yU.out.1 yU.out.2 ?_;rintro g5 q5 w5 yX yY vk;have o8:=hide (yV.out g5 q5 w5 yX yY);clear yX yY vk);go_roundw
     case rel=>exact ⟨i1+1,n+1,_,_,rfl,by go_num,by omega,o8.out.1,o8.out.2⟩
     case measure=>simp [intOf];omega
    .have qZ:Hid (n=(K++A).length∧PW W wr (.slice a n c) (K++A)):=by
      have h1:=hn.out;have h2:=hP.out;rw [List.take_of_length_le (by rw [Kv.out];omega)] at h1 h2;exact ⟨h1,h2⟩
     have abd:¬(i1:Int) < an:=by omega
     clear hP hn;go_wp2_with fail;go_ret;obtain ⟨h1,h2⟩:=qZ.out;subst h1;exact ⟨a,c,rfl,h2.own,h2.kp⟩
def Tm.Gf:Tm->Prop
 | .nil=>True
 | .nd h ks al r=>h.nm.size<=maxLen∧ks.Gf∧al.Gf∧r.Gf
theorem vV:∀(A B:Fo),A.aG B->eU A=eU B
 | .nil,.nil,_=>rfl
 | .v x r,.v y q,h=>by
  obtain ⟨rfl,h2⟩:=h;have e:=vV r q h2
  cases x <;> simp only [eU,e]
 | .s _ _ _ _ _,.s _ _ _ _ _,_=>rfl
 | .nil,.v _ _,h=>h.elim
 | .nil,.s _ _ _ _ _,h=>h.elim
 | .v _ _,.nil,h=>h.elim
 | .v _ _,.s _ _ _ _ _,h=>h.elim
 | .s _ _ _ _ _,.nil,h=>h.elim
 | .s _ _ _ _ _,.v _ _,h=>h.elim
theorem Bf:∀(A B:Fo),A.aG B->gW A=gW B
 | .nil,.nil,_=>rfl
 | .v x r,.v y q,h=>by
  obtain ⟨rfl,h2⟩:=h;have e:=Bf r q h2
  cases x <;> simp only [gW,e]
 | .s _ _ _ _ _,.s _ _ _ _ _,_=>rfl
 | .nil,.v _ _,h=>h.elim
 | .nil,.s _ _ _ _ _,h=>h.elim
 | .v _ _,.nil,h=>h.elim
 | .v _ _,.s _ _ _ _ _,h=>h.elim
 | .s _ _ _ _ _,.nil,h=>h.elim
 | .s _ _ _ _ _,.v _ _,h=>h.elim
theorem DC:∀(m:Nat),(∀(F G:Fo) (n:Nat),F.size<=m->Fit E F (rep (E 3) n)->(di F).Gf∧(G.aG F->di G=di F))∧(∀(F G:Fo) (n:Nat),F.size<=m->Fit E F (rep (E 2) n)->(aV F).Gf∧(G.aG F->aV G=aV F)):=by
 intro m
 induction m with
 | zero=>
  refine ⟨λF G n hm hf=>?_,λF G n hm hf=>?_⟩
  .cases F with
   | nil=>exact ⟨by rw [dB];trivial,λh=>by rw [Fo.cB h]⟩
   | v _ _=>simp [Fo.size] at hm
   | s _ _ _ _ _=>simp [Fo.size] at hm
  .cases F with
   | nil=>exact ⟨by rw [gY];trivial,λh=>by rw [Fo.cB h]⟩
   | v _ _=>simp [Fo.size] at hm
   | s _ _ _ _ _=>simp [Fo.size] at hm
 | succ m ih=>
  obtain ⟨W9,Xa⟩:=ih;refine ⟨λF G n hm hf=>?_,λF G n hm hf=>?_⟩
  .cases n with
   | zero=>
    rw [ai hf];exact ⟨by rw [dB];trivial,λh=>by rw [Fo.cB h]⟩
   | succ n=>
    replace hf:Fit E F ([.i,.t,.b,.s 0,.s 1,.s 3,.s 2]++rep (E 3) n):=hf;obtain ⟨k,F0,rfl,-,hf⟩:=eu hf;obtain ⟨nm,F1,rfl,hnm,hf⟩:=aU hf;obtain ⟨mn,F2,rfl,hf⟩:=dE hf;obtain ⟨la,ln,lc,lk,F3,rfl,h3,hf⟩:=ay hf;obtain ⟨na,nn,nc,nk,F4,rfl,h4,hf⟩:=ay hf;obtain ⟨ka,kn,kc,kk,F5,rfl,h5,hf⟩:=ay hf;obtain ⟨aa,an,ac,ak,F6,rfl,h6,hf⟩:=ay hf;simp only [Fo.size] at hm;have a1:=λG=>W9 kk G kn (by omega) h5
    have a2:=λG=>Xa ak G an (by omega) h6
    have a3:=λG=>W9 F6 G n (by omega) hf
    refine ⟨by rw [eT];exact ⟨hnm,(a1 .nil).1,(a2 .nil).1,(a3 .nil).1⟩,λh=>?_⟩;obtain ⟨G0,rfl,g0⟩:=Fo.aP h;obtain ⟨G1,rfl,g1⟩:=Fo.aP g0;obtain ⟨G2,rfl,g2⟩:=Fo.aP g1;obtain ⟨d3,e3,j3,G3,rfl,s3,g3⟩:=Fo.aI g2;obtain ⟨d4,e4,j4,G4,rfl,s4,g4⟩:=Fo.aI g3;obtain ⟨d5,e5,j5,G5,rfl,s5,g5⟩:=Fo.aI g4;obtain ⟨d6,e6,j6,G6,rfl,s6,g6⟩:=Fo.aI g5;rw [eT,eT,Bf _ _ s3,vV _ _ s4,(a1 _).2 s5,(a2 _).2 s6,(a3 _).2 g6]
  .cases n with
   | zero=>
    rw [ai hf];exact ⟨by rw [gY];trivial,λh=>by rw [Fo.cB h]⟩
   | succ n=>
    replace hf:Fit E F ([.t,.s 1,.i,.t,.b,.s 0,.s 1,.s 3,.s 2]++rep (E 2) n):=hf;obtain ⟨au,E0,rfl,-,hf⟩:=aU hf;obtain ⟨ca,cn,cc,ck,E1,rfl,h0,hf⟩:=ay hf;obtain ⟨k,F0,rfl,-,hf⟩:=eu hf;obtain ⟨nm,F1,rfl,hnm,hf⟩:=aU hf;obtain ⟨mn,F2,rfl,hf⟩:=dE hf;obtain ⟨la,ln,lc,lk,F3,rfl,h3,hf⟩:=ay hf;obtain ⟨na,nn,nc,nk,F4,rfl,h4,hf⟩:=ay hf;obtain ⟨ka,kn,kc,kk,F5,rfl,h5,hf⟩:=ay hf;obtain ⟨aa,an,ac,ak,F6,rfl,h6,hf⟩:=ay hf;simp only [Fo.size] at hm;have a1:=λG=>W9 kk G kn (by omega) h5
    have a2:=λG=>Xa ak G an (by omega) h6
    have a3:=λG=>Xa F6 G n (by omega) hf
    refine ⟨by rw [oH];exact ⟨hnm,(a1 .nil).1,(a2 .nil).1,(a3 .nil).1⟩,λh=>?_⟩;obtain ⟨D0,rfl,g0⟩:=Fo.aP h;obtain ⟨d0,e0,j0,D1,rfl,s0,g1⟩:=Fo.aI g0;obtain ⟨G0,rfl,g2⟩:=Fo.aP g1;obtain ⟨G1,rfl,g3⟩:=Fo.aP g2;obtain ⟨G2,rfl,g4⟩:=Fo.aP g3;obtain ⟨d3,e3,j3,G3,rfl,s3,g5⟩:=Fo.aI g4;obtain ⟨d4,e4,j4,G4,rfl,s4,g6⟩:=Fo.aI g5;obtain ⟨d5,e5,j5,G5,rfl,s5,g7⟩:=Fo.aI g6;obtain ⟨d6,e6,j6,G6,rfl,s6,g8⟩:=Fo.aI g7;rw [oH,oH,vV _ _ s0,Bf _ _ s3,vV _ _ s4,(a1 _).2 s5,(a2 _).2 s6,(a3 _).2 g8]
theorem qd {F:Fo} (hf:Fit E F (E 3)):Fit E F (rep (E 3) 1):=hf
end Go.Proofs.YthfnobboalhihaaGreat.C
