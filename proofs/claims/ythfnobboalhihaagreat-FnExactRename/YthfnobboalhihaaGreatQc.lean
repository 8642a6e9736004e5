import Derived.Test.YthfnobboalhihaaGreatKx
import Derived.Test.YthfnobboalhihaaGreatProg
import Derived.Shelf.LaysM
import Derived.Shelf.Strconv.Clone
import Derived.Maps.Views
import Derived.Maps.OwnSet
import Derived.Maps.OwnIn
set_option maxHeartbeats 4000000
set_option maxRecDepth 100000
namespace Go.Proofs
open Go.Shelf
def Tryz.BJ:Go.Shelf.Ren:=⟨fun | 316=>55 | n=>n,fun | 9=>9 | 3=>3 | 4=>4 | 37=>174 | 0=>0 | 127=>175 | 5=>5 | n=>n,fun | n=>n⟩
theorem Tryz.LC:Go.Proofs.LaysM.n316 Tryz.prog Tryz.BJ:={
 mixed:=by kernel_rfl
 f316:=Tryz.func55.trans (congrArg some (by kernel_rfl))
 t0:=Tryz.underlying0
 a0:=Tryz.isAgg0
 z0:=Tryz.sizeOf0
 v0:=Tryz.zeroValue0
 t3:=Tryz.underlying3
 a3:=Tryz.isAgg3
 z3:=Tryz.sizeOf3
 v3:=Tryz.zeroValue3
 t4:=Tryz.underlying4
 a4:=Tryz.isAgg4
 z4:=Tryz.sizeOf4
 v4:=Tryz.zeroValue4
 t9:=Tryz.underlying9
 a9:=Tryz.isAgg9
 z9:=Tryz.sizeOf9
 v9:=Tryz.zeroValue9
 t37:=Tryz.underlying174
 a37:=Tryz.isAgg174
 z37:=Tryz.sizeOf174
 v37:=Tryz.zeroValue174
 t127:=Tryz.underlying175
 a127:=Tryz.isAgg175
 z127:=Tryz.sizeOf175
 v127:=Tryz.zeroValue175
 t5:=Tryz.underlying5
 a5:=Tryz.isAgg5
 z5:=Tryz.sizeOf5
 v5:=Tryz.zeroValue5
 i0:=by kernel_rfl
 i3:=by kernel_rfl
 i4:=by kernel_rfl
 i5:=by kernel_rfl
 i9:=by kernel_rfl
 i37:=by kernel_rfl
 i127:=by kernel_rfl}
open Go.RowKit in
theorem Tryz.stringslite_Clone (s:ByteArray) (w:World) (hlim:s.size<=281474976710656):
  Calls Tryz.prog 55 #[.string s] w λe w'=>e=.returned (.string s)∧Below w.heap.size w w':=Any.stringslite_Clone Tryz.LC s w hlim
end Go.Proofs
namespace Go.Proofs.YthfnobboalhihaaGreat
open Go.RowKit Go.Joins
def qE (Q:List Nd) (b j:Nat):Prop:=∃d∈Q,d.b=b∧d.o<=j∧j < d.o+7
theorem qE.left {Q R:List Nd} {b j:Nat} (h:qE Q b j):qE (Q++R) b j:=by
 obtain ⟨d,hd,x⟩:=h;exact ⟨d,List.mem_append.2 (.inl hd),x⟩
theorem qE.right {Q R:List Nd} {b j:Nat} (h:qE R b j):qE (Q++R) b j:=by
 obtain ⟨d,hd,x⟩:=h;exact ⟨d,List.mem_append.2 (.inr hd),x⟩
theorem qE.or {Q R:List Nd} {b j:Nat} (h:qE (Q++R) b j):qE Q b j∨qE R b j:=by
 obtain ⟨d,hd,x⟩:=h;rcases List.mem_append.1 hd with e | e
 .exact .inl ⟨d,e,x⟩
 .exact .inr ⟨d,e,x⟩
structure Ph (V:World) (lo:Nat) (d:Nd) (g:Fo):Prop where
 aG:g.aG d.x
 ae:bD V g.vals d.b d.o
 subs:g.av V (λc=>lo<=c∧c < V.heap.size)
 live:Live V g.ah
theorem Ph.mono {V:World} {lo lo':Nat} {d:Nd} {g:Fo} (h:Ph V lo d g) (hl:lo'<=lo):Ph V lo' d g:=
 ⟨h.aG,h.ae,h.subs.mono (λ_ x=>⟨Nat.le_trans hl x.1,x.2⟩),h.live⟩
def jf (V:World) (lo:Nat):List Nd->List Fo->Prop
 | [],[]=>True
 | d ::Q,g ::gs=>Ph V lo d g∧jf V lo Q gs
 | _,_=>False
theorem jf.mono {V:World} {lo lo':Nat} (hl:lo'<=lo):∀{Q:List Nd} {gs:List Fo},jf V lo Q gs->jf V lo' Q gs
 | [],[],_=>trivial
 | _ ::_,_ ::_,⟨h,k⟩=>⟨h.mono hl,k.mono hl⟩
 | [],_ ::_,h=>h.elim
 | _ ::_,[],h=>h.elim
theorem jf.split {V:World} {lo:Nat}:∀{Q R:List Nd} {gs:List Fo},jf V lo (Q++R) gs->∃g1 g2,gs=g1++g2∧jf V lo Q g1∧jf V lo R g2
 | [],R,gs,h=>⟨[],gs,rfl,trivial,h⟩
 | d ::Q,R,[],h=>h.elim
 | d ::Q,R,g ::gs,⟨h,k⟩=>by
  obtain ⟨g1,g2,rfl,k1,k2⟩:=jf.split (Q:=Q) k;exact ⟨g ::g1,g2,rfl,⟨h,k1⟩,k2⟩
theorem jf.join {V:World} {lo:Nat}:∀{Q R:List Nd} {g1 g2:List Fo},jf V lo Q g1->jf V lo R g2->jf V lo (Q++R) (g1++g2)
 | [],_,[],_,_,k=>k
 | _ ::Q,_,_ ::_,_,⟨h,h2⟩,k=>⟨h,jf.join (Q:=Q) h2 k⟩
 | [],_,_ ::_,_,h,_=>h.elim
 | _ ::_,_,[],_,h,_=>h.elim
def mI (gs:List Fo):List Nat:=gs.flatMap Fo.ah
theorem pX (a b:List Fo):mI (a++b)=mI a++mI b:=by simp [mI]
theorem nD (g:Fo) (a:List Fo):mI (g ::a)=g.ah++mI a:=by simp [mI]
theorem jf.ah {V:World} {lo:Nat}:∀{Q:List Nd} {gs:List Fo},jf V lo Q gs->∀c∈mI gs,lo<=c∧c < V.heap.size
 | [],[],_,c,hc=>by simp [mI] at hc
 | _ ::Q,g ::gs,⟨h,k⟩,c,hc=>by
  rw [nD] at hc;rcases List.mem_append.1 hc with e | e
  .exact h.subs.bu c e
  .exact jf.ah (Q:=Q) k c e
 | [],_ ::_,h,_,_=>h.elim
 | _ ::_,[],h,_,_=>h.elim
def wE (V:World) (S:Nat->Prop) (Q:List Nd) (root:Nat) (F:Fo):Prop:=
 ∀(V':World) (gs:List Fo),V.heap.size<=V'.heap.size->
  (∀b j,S b->¬qE Q b j->V'.cell? ⟨b,j,none⟩=V.cell? ⟨b,j,none⟩)->(∀b j,S b->V'.frozen? ⟨b,j,none⟩=V.frozen? ⟨b,j,none⟩)->
  jf V' V.heap.size Q gs->(mI gs).Nodup->
  ∃G:Fo,G.aG F∧bD V' G.vals root 0∧G.av V' (λc=>c∈G.ah)∧G.ah.Nodup∧Live V' G.ah∧∀c∈G.ah,(S c∧c≠root)∨c∈mI gs
theorem wE.start {V:World} {S:Nat->Prop} {d:Nd} (h0:d.o=0):wE V S [d] d.b d.x:=by
 intro V' gs hz _ _ hc hn
 cases gs with
 | nil=>exact hc.elim
 | cons g gs=>
  obtain ⟨h,k⟩:=hc
  cases gs with
  | cons g' gs=>exact k.elim
  | nil=>
   rw [nD,show mI []=[] from rfl,List.append_nil] at hn ⊢;refine ⟨g,h.aG,?_,h.subs.own,hn,h.live,λc hc=>.inr hc⟩
   have:=h.ae
   rwa [h0] at this
def ZU (V V2:World) (S2:Nat->Prop) (Q Q2:List Nd) (d:Nd):Prop:=
 ∀(V':World) (gs:List Fo),V2.heap.size<=V'.heap.size->
  (∀b j,S2 b->¬qE (Q++Q2) b j->V'.cell? ⟨b,j,none⟩=V2.cell? ⟨b,j,none⟩)->(∀b j,S2 b->V'.frozen? ⟨b,j,none⟩=V2.frozen? ⟨b,j,none⟩)->
  jf V' V2.heap.size Q2 gs->(mI gs).Nodup->
  ∃g,Ph V' V.heap.size d g∧g.ah.Nodup∧∀c∈g.ah,(S2 c∧V.heap.size<=c∧c < V2.heap.size)∨c∈mI gs
theorem wE.step {V V2:World} {S S2:Nat->Prop} {Q Q2:List Nd} {d:Nd} {root:Nat} {F:Fo} (h:wE V S (Q++[d]) root F) (hz:V.heap.size<=V2.heap.size) (hr:root < V.heap.size)
  (hS:∀c,S c->c < V.heap.size) (hS2:∀c,S c->S2 c)
  (hk:∀b j,S b->¬qE [d] b j->V2.cell? ⟨b,j,none⟩=V.cell? ⟨b,j,none⟩) (hf:∀b j,S b->V2.frozen? ⟨b,j,none⟩=V.frozen? ⟨b,j,none⟩)
  (MN:∀e∈Q2,V.heap.size<=e.b) (ha:ZU V V2 S2 Q Q2 d):wE V2 S2 (Q++Q2) root F:=by
 intro V' gs hz' hk' hf' hc hn;obtain ⟨g1,g2,rfl,c1,c2⟩:=hc.split;rw [pX] at hn;obtain ⟨n1,n2,n3⟩:=List.nodup_append.1 hn;obtain ⟨g,hg,hgn,hgi⟩:=ha V' g2 hz' hk' hf' c2 n2;obtain ⟨G,G1,G2,G3,G4,G5,G6⟩:=h V' (g1++[g]) (Nat.le_trans hz hz') (λb j hb hj=>by
   rw [hk' b j (hS2 b hb) (λhq=>?_),hk b j hb (λhq=>hj hq.right)];rcases hq.or with e | ⟨e,he,e1,-⟩
   .exact hj e.left
   .have:=MN e he
    have:=hS b hb
    omega) (λb j hb=>(hf' b j (hS2 b hb)).trans (hf b j hb)) (jf.join (c1.mono hz) ⟨hg,trivial⟩) (by
   rw [pX,nD,show mI []=[] from rfl,List.append_nil];refine List.nodup_append.2 ⟨n1,hgn,λx hx y hy e=>?_⟩;subst e;rcases hgi x hy with e | e
   .have:=(c1.ah x hx).1
    omega
   .exact n3 x hx x e rfl)
 refine ⟨G,G1,G2,G3,G4,G5,λc hc=>?_⟩;rcases G6 c hc with ⟨e1,e2⟩ | e
 .exact .inl ⟨hS2 c e1,e2⟩
 .rw [pX,nD,show mI []=[] from rfl,List.append_nil] at e
  rcases List.mem_append.1 e with e | e
  .exact .inr (by rw [pX];exact List.mem_append.2 (.inl e))
  .rcases hgi c e with ⟨e1,e2,e3⟩ | e
   .exact .inl ⟨e1,by omega⟩
   .exact .inr (by rw [pX];exact List.mem_append.2 (.inr e))
theorem wE.keep {V V2:World} {S:Nat->Prop} {Q:List Nd} {root:Nat} {F:Fo} (h:wE V S Q root F) (hz:V.heap.size<=V2.heap.size) (hk:∀b j,S b->V2.cell? ⟨b,j,none⟩=V.cell? ⟨b,j,none⟩) (hf:∀b j,S b->V2.frozen? ⟨b,j,none⟩=V.frozen? ⟨b,j,none⟩):wE V2 S Q root F:=by
 intro V' gs hz' hk' hf' hc hn;exact h V' gs (Nat.le_trans hz hz') (λb j hb hj=>(hk' b j hb hj).trans (hk b j hb)) (λb j hb=>(hf' b j hb).trans (hf b j hb)) (hc.mono hz) hn
theorem wE.done {V:World} {S:Nat->Prop} {root:Nat} {F:Fo} (h:wE V S [] root F):∃G:Fo,G.aG F∧bD V G.vals root 0∧G.av V (λc=>S c∧c≠root)∧G.ah.Nodup∧Live V G.ah:=by
 obtain ⟨G,h1,h2,h3,h4,h5,h6⟩:=h V [] (Nat.le_refl _) (λ_ _ _ _=>rfl) (λ_ _ _=>rfl) trivial List.nodup_nil;refine ⟨G,h1,h2,h3.mono (λc hc=>?_),h4,h5⟩;rcases h6 c hc with e | e
 .exact e
 .simp [mI] at e
theorem Fo.sD:∀{F G x r:Fo},F.aG x->G.aG r->(F.app G).aG (x.app r)
 | .nil,_,.nil,_,_,k=>k
 | .v _ F,_,.v _ _,_,⟨e,h⟩,k=>⟨e,Fo.sD (F:=F) h k⟩
 | .s _ _ _ _ F,_,.s _ _ _ _ _,_,⟨e,h1,h⟩,k=>⟨e,h1,Fo.sD (F:=F) h k⟩
 | .nil,_,.v _ _,_,h,_=>h.elim
 | .nil,_,.s _ _ _ _ _,_,h,_=>h.elim
 | .v _ _,_,.nil,_,h,_=>h.elim
 | .v _ _,_,.s _ _ _ _ _,_,h,_=>h.elim
 | .s _ _ _ _ _,_,.nil,_,h,_=>h.elim
 | .s _ _ _ _ _,_,.v _ _,_,h,_=>h.elim
theorem TL {V:World} {lo b:Nat}:∀(n o:Nat) (kk:Fo) (gs:List Fo),Fit E kk (rep (E 3) n)->jf V lo (aS b o kk) gs->∃G:Fo,G.aG kk∧bD V G.vals b o∧G.av V (λc=>lo<=c∧c < V.heap.size)∧Live V G.ah∧G.ah=mI gs
 | 0,o,kk,gs,hf,hc=>by
  rw [ai hf] at hc ⊢
  cases gs with
  | nil=>exact ⟨.nil,trivial,bD.nil _ _ _,trivial,λc hc=>by simp [Fo.ah] at hc,rfl⟩
  | cons g gs=>exact hc.elim
 | n+1,o,kk,gs,hf,hc=>by
  obtain ⟨x,q,rfl,hx,hq,hl⟩:=Fit.split (fs:=E 3) (gs:=rep (E 3) n) hf;have hx':=hx;obtain ⟨k,nm,mn,la,ln,lc,lk,na,nn,nc,nk,ka,kn,kc,kk,aa,an,ac,ak,rfl,-⟩:=ag hx;simp only [Fo.app,aS] at hc
  cases gs with
  | nil=>exact hc.elim
  | cons g gs=>
   obtain ⟨h,hc⟩:=hc;obtain ⟨G,h1,h2,h3,h4,h5⟩:=TL n (o+7) q gs hq hc;have hlen:g.len=7:=Fit.len (h.aG.fit hx');refine ⟨g.app G,Fo.sD h.aG h1,?_,h.subs.app h3,?_,?_⟩
   .rw [Fo.bX]
    refine h.ae.join ?_;rw [Fo.aB,hlen];exact h2
   .rw [Fo.aQ]
    exact h.live.app h4
   .rw [Fo.aQ,nD,h5]
def dF (V:World) (lo b:Nat):Nat->Fo->Prop
 | o,.v x (.s ca cn cc ck (.v _ (.v _ (.v _ (.s _ _ _ _ (.s _ _ _ _ (.s _ _ _ _ (.s _ _ _ _ r))))))))=>
  V.cell? ⟨b,o,none⟩=some x∧V.cell? ⟨b,o+1,none⟩=some (.slice ca cn cc)∧Fo.Sub V (λc=>lo<=c∧c < V.heap.size) ca cn cc ck∧Live V (blk ca ck.len++ck.ah)∧dF V lo b (o+9) r
 | _,_=>True
def iq:Fo->List Nat
 | .v _ (.s ca _ _ ck (.v _ (.v _ (.v _ (.s _ _ _ _ (.s _ _ _ _ (.s _ _ _ _ (.s _ _ _ _ r))))))))=>(blk ca ck.len++ck.ah)++iq r
 | _=>[]
theorem TN {V:World} {lo b:Nat}:∀(n o:Nat) (ak:Fo) (gs:List Fo),Fit E ak (rep (E 2) n)->dF V lo b o ak->jf V lo (aJ b o ak) gs->∃G:Fo,G.aG ak∧bD V G.vals b o∧G.av V (λc=>lo<=c∧c < V.heap.size)∧Live V G.ah∧List.Perm G.ah (iq ak++mI gs)
 | 0,o,ak,gs,hf,_,hc=>by
  rw [ai hf] at hc ⊢
  cases gs with
  | nil=>exact ⟨.nil,trivial,bD.nil _ _ _,trivial,λc hc=>by simp [Fo.ah] at hc,.refl _⟩
  | cons g gs=>exact hc.elim
 | n+1,o,ak,gs,hf,ha,hc=>by
  obtain ⟨x,q,rfl,hx,hq,hl⟩:=Fit.split (fs:=E 2) (gs:=rep (E 2) n) hf;obtain ⟨au,ca,cn,cc,ck,y,rfl,-,-,hy⟩:=aK hx;have hy':=hy;obtain ⟨k,nm,mn,la,ln,lc,lk,na,nn,nc,nk,ka,kn,kc,kk,aa,an,ac,ak,rfl,-⟩:=ag hy;simp only [Fo.app,aJ] at hc;simp only [Fo.app,dF] at ha;obtain ⟨a1,a2,a3,a4,a5⟩:=ha
  cases gs with
  | nil=>exact hc.elim
  | cons g gs=>
   obtain ⟨h,hc⟩:=hc;obtain ⟨G,h1,h2,h3,h4,h5⟩:=TN n (o+9) q gs hq a5 hc;have hlen:g.len=7:=Fit.len (h.aG.fit hy');refine ⟨.v (.string au) (.s ca cn cc ck (g.app G)),⟨rfl,rfl,Fo.aG.refl ck,Fo.sD h.aG h1⟩,?_,⟨a3,h.subs.app h3⟩,?_,?_⟩
   .simp only [Fo.vals]
    intro i v hv
    cases i with
    | zero=>simp only [List.getElem?_cons_zero,Option.some.injEq] at hv;subst hv;exact a1
    | succ i=>
     cases i with
     | zero=>simp only [List.getElem?_cons_succ,List.getElem?_cons_zero,Option.some.injEq] at hv;subst hv;exact a2
     | succ i=>
      simp only [List.getElem?_cons_succ] at hv;have hj:bD V (g.app G).vals b (o+2):=by
       rw [Fo.bX];refine h.ae.join ?_;rw [Fo.aB,hlen];exact h2
      have:=hj i v hv
      rwa [show o+2+i=o+(i+1+1) from by omega] at this
   .simp only [Fo.ah,Fo.aQ]
    exact a4.app (h.live.app h4)
   .simp only [Fo.app,iq,Fo.ah,Fo.aQ,nD]
    simp only [List.append_assoc];refine List.Perm.append_left _ (List.Perm.append_left _ ?_);refine (List.Perm.append_left _ h5).trans ?_;rw [<- List.append_assoc,<- List.append_assoc];exact List.Perm.append_right _ List.perm_append_comm
theorem yz:∀(n:Nat) (F:Fo),Fit E F (rep (E 1) n)->F.ah=[]
 | 0,F,h=>by rw [ai h];rfl
 | n+1,F,h=>by
  replace h:Fit E F (.t ::rep (E 1) n):=h;obtain ⟨x,r,rfl,-,hr⟩:=aU h;exact yz n r hr
theorem JM:∀(n:Nat) (F:Fo),Fit E F (rep (E 0) n)->F.ah=[]
 | 0,F,h=>by rw [ai h];rfl
 | n+1,F,h=>by
  replace h:Fit E F (.u ::rep (E 0) n):=h;obtain ⟨x,r,rfl,-,hr⟩:=jy h;exact JM n r hr
theorem pM {W:World} {S:Nat->Prop}:∀(n:Nat) (F:Fo),Fit E F (rep (E 1) n)->F.av W S
 | 0,F,h=>by rw [ai h];exact trivial
 | n+1,F,h=>by
  replace h:Fit E F (.t ::rep (E 1) n):=h;obtain ⟨x,r,rfl,-,hr⟩:=aU h;exact pM n r hr
theorem Fh {W:World} {S:Nat->Prop}:∀(n:Nat) (F:Fo),Fit E F (rep (E 0) n)->F.av W S
 | 0,F,h=>by rw [ai h];exact trivial
 | n+1,F,h=>by
  replace h:Fit E F (.u ::rep (E 0) n):=h;obtain ⟨x,r,rfl,-,hr⟩:=jy h;exact Fh n r hr
theorem je {a:Option Addr} {m n:Nat} (h:0 < m↔0 < n):blk a m=blk a n:=by
 cases m <;> cases n <;> first | rfl | (simp at h;done) | (cases a <;> rfl)
theorem ib {E':Nat->List bq} {F:Fo} {fs:List bq} {n:Nat} (h:Fit E' F (rep fs n)) (hw:0 < fs.length):0 < F.len↔0 < n:=by
 rw [Fit.len h,dz];constructor
 .intro hh
  rcases Nat.eq_zero_or_pos n with e | e
  .subst e;simp at hh
  .exact e
 .intro hh
  exact Nat.mul_pos hh hw
def aY (W:World) (T:Nat->Prop) (a:Option Addr) (n cap:Nat) (L:List Value):Prop:=
 n<=cap∧cap<=maxLen∧(0 < n->∃b,a=some ⟨b,0,none⟩∧T b∧bD W L b 0∧∀j,W.frozen? ⟨b,j,none⟩=false)
theorem aY.blk {W:World} {T:Nat->Prop} {a:Option Addr} {n cap:Nat} {L:List Value} (h:aY W T a n cap L):∀c∈Go.Proofs.YthfnobboalhihaaGreat.blk a n,T c∧∀j,W.frozen? ⟨c,j,none⟩=false:=by
 intro c hc
 by_cases hn:0 < n
 .obtain ⟨b,rfl,hb,-,hf⟩:=h.2.2 hn
  rw [aT hn] at hc;have e:c=b:=by simpa using hc
  rw [e];exact ⟨hb,hf⟩
 .have e:n=0:=by omega
  rw [e,jv] at hc
  cases hc
theorem dF.keep {V V':World} {lo b:Nat} (hz:V.heap.size<=V'.heap.size):∀(n o:Nat) (ak:Fo),Fit E ak (rep (E 2) n)->(∀i,i < n->V'.cell? ⟨b,o+i * 9,none⟩=V.cell? ⟨b,o+i * 9,none⟩∧V'.cell? ⟨b,o+i * 9+1,none⟩=V.cell? ⟨b,o+i * 9+1,none⟩)->
  (∀c∈iq ak,∀j,V'.cell? ⟨c,j,none⟩=V.cell? ⟨c,j,none⟩∧V'.frozen? ⟨c,j,none⟩=V.frozen? ⟨c,j,none⟩)->dF V lo b o ak->dF V' lo b o ak
 | 0,o,ak,hf,_,_,_=>by rw [ai hf];trivial
 | n+1,o,ak,hf,hc,hn,ha=>by
  obtain ⟨x,q,rfl,hx,hq,hl⟩:=Fit.split (fs:=E 2) (gs:=rep (E 2) n) hf;obtain ⟨au,ca,cn,cc,ck,y,rfl,-,hck,hy⟩:=aK hx;obtain ⟨k,nm,mn,la,ln,lc,lk,na,nn,nc,nk,ka,kn,kc,kk,aa,an,ac,ak,rfl,-⟩:=ag hy;simp only [Fo.app,dF] at ha ⊢;simp only [Fo.app,iq,List.mem_append] at hn;obtain ⟨a1,a2,a3,a4,a5⟩:=ha;have h0:=hc 0 (by omega);rw [Nat.zero_mul,Nat.add_zero] at h0;have hin:=yz cn ck hck;refine ⟨h0.1.trans a1,h0.2.trans a2,⟨a3.1,a3.2.1,λhl=>?_⟩,λc hc' j=>?_,dF.keep hz n (o+9) q hq (λi hi=>?_) (λc hc'=>hn c (.inr hc')) a5⟩
  .obtain ⟨b',o',e,s,cl,-⟩:=a3.2.2 hl
   refine ⟨b',o',e,⟨s.1,Nat.lt_of_lt_of_le s.2 hz⟩,λi v hv=>?_,pM cn ck hck⟩;rw [(hn b' (.inl (.inl (by rw [e,aT hl];simp))) _).1];exact cl i v hv
  .rw [(hn c (.inl (List.mem_append.1 hc')) j).2]
   exact a4 c hc' j
  .have:=hc (i+1) (by omega)
   rw [show o+(i+1)* 9=o+9+i * 9 from by omega] at this;exact this
theorem GZ {b:Nat}:∀(n o:Nat) (F:Fo),Fit E F (rep (E 3) n)->∀e∈aS b o F,e.b=b
 | 0,o,F,h,e,he=>by rw [ai h] at he;simp [aS] at he
 | n+1,o,F,h,e,he=>by
  obtain ⟨x,q,rfl,hx,hq,hl⟩:=Fit.split (fs:=E 3) (gs:=rep (E 3) n) h;obtain ⟨k,nm,mn,la,ln,lc,lk,na,nn,nc,nk,ka,kn,kc,kk,aa,an,ac,ak,rfl,-⟩:=ag hx;simp only [Fo.app,aS,List.mem_cons] at he;rcases he with rfl | he
  .rfl
  .exact GZ n (o+7) q hq e he
theorem wG {b:Nat}:∀(n o:Nat) (F:Fo),Fit E F (rep (E 2) n)->∀e∈aJ b o F,e.b=b∧∃i,e.o=o+i * 9+2
 | 0,o,F,h,e,he=>by rw [ai h] at he;simp [aJ] at he
 | n+1,o,F,h,e,he=>by
  obtain ⟨x,q,rfl,hx,hq,hl⟩:=Fit.split (fs:=E 2) (gs:=rep (E 2) n) h;obtain ⟨au,ca,cn,cc,ck,y,rfl,-,hck,hy⟩:=aK hx;obtain ⟨k,nm,mn,la,ln,lc,lk,na,nn,nc,nk,ka,kn,kc,kk,aa,an,ac,ak,rfl,-⟩:=ag hy;simp only [Fo.app,aJ,List.mem_cons] at he;rcases he with rfl | he
  .exact ⟨rfl,0,by simp⟩
  .obtain ⟨e1,i,e2⟩:=wG n (o+9) q hq e he
   exact ⟨e1,i+1,by rw [e2];omega⟩
theorem Ky {V V2:World} {S2:Nat->Prop} {Q:List Nd} {b o:Nat} {k:Int} {nm:ByteArray} {mn:Bool} {la la' na na' ka dC aa dA:Option Addr} {ln lc fu nn nc bI kn kc eY an ac eZ:Nat} {lk nk kk ak bG:Fo}
  (hl:Fit E lk (rep (E 0) ln)) (hn:Fit E nk (rep (E 1) nn)) (hk:Fit E kk (rep (E 3) kn)) (ha:Fit E ak (rep (E 2) an)) (hs:bG.aG ak)
  (hc:bD V2 [.int .i64 k,.string nm,.bool mn,.slice la' ln fu,.slice na' nn bI,.slice dC kn eY,.slice dA an eZ] b o)
  (rl:aY V2 (λc=>S2 c∧V.heap.size<=c∧c < V2.heap.size) la' ln fu lk.vals) (rn:aY V2 (λc=>S2 c∧V.heap.size<=c∧c < V2.heap.size) na' nn bI nk.vals)
  (rk:aY V2 (λc=>S2 c∧V.heap.size<=c∧c < V2.heap.size) dC kn eY []) (ra:aY V2 (λc=>S2 c∧V.heap.size<=c∧c < V2.heap.size∧dF V2 V.heap.size c 0 bG) dA an eZ [])
  (hnb:∀c∈iq bG,S2 c∧V.heap.size<=c∧c < V2.heap.size)
  (hd:(blk la' ln++(blk na' nn++(blk dC kn++(blk dA an++iq bG)))).Nodup)
  (hQ:∀e∈Q,e.b < V.heap.size) (hb:S2 b) (hbv:b < V.heap.size) (hself:∀j,o<=j->j < o+7->¬qE Q b j):
  ZU V V2 S2 Q (eP dC kk++fC dA bG) ⟨b,o,.v (.int .i64 k) (.v (.string nm) (.v (.bool mn) (.s la ln lc lk (.s na nn nc nk (.s ka kn kc kk (.s aa an ac ak .nil))))))⟩:=by
 intro V' gs hz hkc OL hcs hgn;have hf':=hs.fit ha;obtain ⟨g1,g2,rfl,c1,c2⟩:=hcs.split;have pl:=ib hl (by decide);have pn:=ib hn (by decide);have pk:=ib hk (by decide);have pa:=ib hf' (by decide);have il:=JM ln lk hl;have TK:=yz nn nk hn;have hnew:∀c,V.heap.size<=c->(∀e∈eP dC kk++fC dA bG,e.b≠c)->∀j,¬qE (Q++(eP dC kk++fC dA bG)) c j:=λc h1 h2 j hq=>by
  rcases hq.or with ⟨e,he,e1,-⟩ | ⟨e,he,e1,-⟩
  .have:=hQ e he
   omega
  .exact h2 e he e1
 have Bp:∀e∈eP dC kk,e.b∈blk dC kn:=λe he=>by
  by_cases h0:0 < kn
  .obtain ⟨kb,rfl,-⟩:=rk.2.2 h0
   rw [aT h0,GZ kn 0 kk hk e he]
   simp
  .have e0:kn=0:=by omega
   subst e0;rw [ai hk] at he
   cases dC <;> simp [eP,aS] at he
 have G8:∀e∈fC dA bG,e.b∈blk dA an:=λe he=>by
  by_cases h0:0 < an
  .obtain ⟨ab,rfl,-⟩:=ra.2.2 h0
   rw [aT h0,(wG an 0 bG hf' e he).1]
   simp
  .have e0:an=0:=by omega
   subst e0;rw [ai hf'] at he
   cases dA <;> simp [fC,aJ] at he
 obtain ⟨d1,d2,d3⟩:=List.nodup_append.1 hd;obtain ⟨d4,d5,d6⟩:=List.nodup_append.1 d2;obtain ⟨d7,d8,d9⟩:=List.nodup_append.1 d5;obtain ⟨ZV,d11,d12⟩:=List.nodup_append.1 d8;have hq2:∀e∈eP dC kk++fC dA bG,e.b∈blk dC kn∨e.b∈blk dA an:=λe he=>(List.mem_append.1 he).imp (Bp e) (G8 e)
 have kl:∀c∈blk la' ln,∀j,¬qE (Q++(eP dC kk++fC dA bG)) c j:=λc hc'=>hnew c (rl.blk c hc').1.2.1 (λe he ee=>by
  rcases hq2 e he with h | h
  .exact d3 c hc' e.b (by simp [h]) ee.symm
  .exact d3 c hc' e.b (by simp [h]) ee.symm)
 have CG:∀c∈blk na' nn,∀j,¬qE (Q++(eP dC kk++fC dA bG)) c j:=λc hc'=>hnew c (rn.blk c hc').1.2.1 (λe he ee=>by
  rcases hq2 e he with h | h
  .exact d6 c hc' e.b (by simp [h]) ee.symm
  .exact d6 c hc' e.b (by simp [h]) ee.symm)
 have kb':∀c∈iq bG,∀j,¬qE (Q++(eP dC kk++fC dA bG)) c j:=λc hc'=>hnew c (hnb c hc').2.1 (λe he ee=>by
  rcases hq2 e he with h | h
  .exact d9 e.b h c (by simp [hc']) ee
  .exact d12 e.b h c hc' ee)
 obtain ⟨Gk,k1,k2,k3,k4⟩:∃Gk:Fo,Gk.aG kk∧Fo.Sub V' (λc=>V.heap.size<=c∧c < V'.heap.size) dC kn eY Gk∧Live V' (blk dC kn++Gk.ah)∧Gk.ah=mI g1:=by
  by_cases h0:0 < kn
  .obtain ⟨kb,rfl,⟨t1,t2,t3⟩,-,fz⟩:=rk.2.2 h0
   obtain ⟨Gk,q1,q2,q3,q4,q5⟩:=TL kn 0 kk g1 hk c1;refine ⟨Gk,q1,⟨rk.1,rk.2.1,λ_=>⟨kb,0,rfl,⟨t2,by omega⟩,q2,q3.mono (λc x=>⟨by omega,x.2⟩)⟩⟩,λc hc' j=>?_,q5⟩;rcases List.mem_append.1 hc' with e | e
   .rw [aT h0] at e
    have e':c=kb:=by simpa using e
    rw [e',OL kb j t1];exact fz j
   .exact q4 c e j
  .have e0:kn=0:=by omega
   subst e0;have ek:=ai hk;subst ek;have e1:g1=[]:=by
    cases g1 with
    | nil=>rfl
    | cons g g1=>cases dC <;> exact (c1:jf V' V2.heap.size [] (g ::g1)).elim
   subst e1;exact ⟨.nil,trivial,⟨rk.1,rk.2.1,λh=>absurd h (by simp [Fo.len])⟩,λc hc'=>by rw [jv] at hc';simp [Fo.ah] at hc',rfl⟩
 obtain ⟨Ga,a1,a2,a3,a4⟩:∃Ga:Fo,Ga.aG ak∧Fo.Sub V' (λc=>V.heap.size<=c∧c < V'.heap.size) dA an eZ Ga∧Live V' (blk dA an++Ga.ah)∧List.Perm Ga.ah (iq bG++mI g2):=by
  by_cases h0:0 < an
  .obtain ⟨ab,rfl,⟨t1,t2,t3,t4⟩,-,fz⟩:=ra.2.2 h0
   have hab:∀i j,j < 2->¬qE (Q++(eP dC kk++fC (some ⟨ab,0,none⟩) bG)) ab (0+i * 9+j):=λi j hj hq=>by
    rcases hq.or with ⟨e,he,e1,-⟩ | hq
    .have:=hQ e he
     omega
    .rcases hq.or with ⟨e,he,e1,-⟩ | ⟨e,he,e1,e2,e3⟩
     .have:=Bp e he
      exact d9 e.b this ab (by rw [aT h0];simp) e1
     .obtain ⟨-,i',e4⟩:=wG an 0 bG hf' e he
      omega
   have hat:dF V' V.heap.size ab 0 bG:=dF.keep hz an 0 bG hf' (λi hi=>⟨hkc ab _ t1 (hab i 0 (by omega)),hkc ab _ t1 (hab i 1 (by omega))⟩) (λc hc' j=>⟨hkc c j (hnb c hc').1 (kb' c hc' j),OL c j (hnb c hc').1⟩) t4;obtain ⟨Ga,q1,q2,q3,q4,q5⟩:=TN an 0 bG g2 hf' hat (c2.mono (by omega));refine ⟨Ga,q1.trans hs,⟨ra.1,ra.2.1,λ_=>⟨ab,0,rfl,⟨t2,by omega⟩,q2,q3⟩⟩,λc hc' j=>?_,q5⟩;rcases List.mem_append.1 hc' with e | e
   .rw [aT h0] at e
    have e':c=ab:=by simpa using e
    rw [e',OL ab j t1];exact fz j
   .exact q4 c e j
  .have e0:an=0:=by omega
   subst e0;have ek:=ai ha;subst ek;have ek':=ai hf';subst ek';have e1:g2=[]:=by
    cases g2 with
    | nil=>rfl
    | cons g g2=>cases dA <;> exact (c2:jf V' V2.heap.size [] (g ::g2)).elim
   subst e1;exact ⟨.nil,trivial,⟨ra.1,ra.2.1,λh=>absurd h (by simp [Fo.len])⟩,λc hc'=>by rw [jv] at hc';simp [Fo.ah] at hc',.refl _⟩
 have VO:=ib (k1.fit hk) (by decide);have VP:=ib (a1.fit ha) (by decide);have hperm:List.Perm ((blk la' ln++lk.ah)++((blk na' nn++nk.ah)++((blk dC kn++Gk.ah)++((blk dA an++Ga.ah)++[])))) ((blk la' ln++(blk na' nn++(blk dC kn++(blk dA an++iq bG))))++mI (g1++g2)):=by
  rw [il,TK,k4,pX];simp only [List.append_nil,List.append_assoc];refine List.Perm.append_left _ (List.Perm.append_left _ (List.Perm.append_left _ ?_));refine ((List.Perm.append_left _ (List.Perm.append_left _ a4))).trans ?_;have p1:List.Perm (mI g1++(blk dA an++(iq bG++mI g2))) ((blk dA an++iq bG)++(mI g1++mI g2)):=by
   rw [<- List.append_assoc (blk dA an),<- List.append_assoc,<- List.append_assoc (blk dA an++iq bG)];exact List.Perm.append_right _ List.perm_append_comm
  simpa only [List.append_assoc] using p1
 refine ⟨.v (.int .i64 k) (.v (.string nm) (.v (.bool mn) (.s la' ln fu lk (.s na' nn bI nk (.s dC kn eY Gk (.s dA an eZ Ga .nil)))))),⟨⟨rfl,rfl,rfl,rfl,Fo.aG.refl _,rfl,Fo.aG.refl _,rfl,k1,rfl,a1,trivial⟩,λi v hv=>?_,⟨⟨rl.1,rl.2.1,λh=>?_⟩,⟨rn.1,rn.2.1,λh=>?_⟩,k2,a2,trivial⟩,?_⟩,?_,?_⟩
 .have hi:i < 7:=(List.getElem?_eq_some_iff.1 hv).1
  show V'.cell? ⟨b,o+i,none⟩=some v;rw [hkc b (o+i) hb (λhq=>?_)]
  .exact hc i v hv
  .rcases hq.or with hq | ⟨e,he,e1,-⟩
   .exact hself (o+i) (by omega) (by omega) hq
   .rcases hq2 e he with h | h
    .have:=(rk.blk e.b h).1.2.1
     omega
    .have:=(ra.blk e.b h).1.2.1
     omega
 .obtain ⟨c,rfl,⟨t1,t2,t3⟩,t4,t5⟩:=rl.2.2 (pl.1 h)
  refine ⟨c,0,rfl,⟨t2,by omega⟩,λi v hv=>?_,Fh ln lk hl⟩;rw [hkc c _ t1 (kl c (by rw [aT (pl.1 h)];simp) _)];exact t4 i v hv
 .obtain ⟨c,rfl,⟨t1,t2,t3⟩,t4,t5⟩:=rn.2.2 (pn.1 h)
  refine ⟨c,0,rfl,⟨t2,by omega⟩,λi v hv=>?_,pM nn nk hn⟩;rw [hkc c _ t1 (CG c (by rw [aT (pn.1 h)];simp) _)];exact t4 i v hv
 .simp only [Fo.ah]
  rw [je pl,je pn,je VO,je VP,il,TK,List.append_nil,List.append_nil,List.append_nil];refine Live.app (λc hc' j=>?_) (Live.app (λc hc' j=>?_) (k3.app a3))
  .rw [OL c j (rl.blk c hc').1.1]
   exact (rl.blk c hc').2 j
  .rw [OL c j (rn.blk c hc').1.1]
   exact (rn.blk c hc').2 j
 .simp only [Fo.ah]
  rw [je pl,je pn,je VO,je VP];refine (hperm.nodup_iff).2 (List.nodup_append.2 ⟨hd,hgn,λx hx y hy e=>?_⟩);subst e;have h1:=((c1.join c2).ah x hy).1;simp only [List.mem_append] at hx;rcases hx with e | e | e | e | e
  .have:=(rl.blk x e).1.2.2;omega
  .have:=(rn.blk x e).1.2.2;omega
  .have:=(rk.blk x e).1.2.2;omega
  .have:=(ra.blk x e).1.2.2.1;omega
  .have:=(hnb x e).2.2;omega
 .intro c hc'
  simp only [Fo.ah] at hc';rw [je pl,je pn,je VO,je VP] at hc'
  have:=(hperm.mem_iff).1 hc'
  rcases List.mem_append.1 this with h | h
  .refine .inl ?_
   simp only [List.mem_append] at h;rcases h with e | e | e | e | e
   .exact (rl.blk c e).1
   .exact (rn.blk c e).1
   .exact (rk.blk c e).1
   .obtain ⟨x1,x2,x3,-⟩:=(ra.blk c e).1
    exact ⟨x1,x2,x3⟩
   .exact hnb c e
  .exact .inr h
theorem zz13 {P:Prop} (h:P:=by
 go_wp2_with fail;refine HC.out.mono ?_;rintro e W' ⟨g,cap,rfl,ho,hb2⟩;have hle:=nu ho;have HF:Hid (aY W' (λb=>W.heap.size<=b∧b < W'.heap.size) (some ⟨g,0,none⟩) n cap xs∧Kept (λ_=>True) W W'):=⟨⟨hle.2.2.1,hle.2.2.2,λ_=>⟨g,rfl,⟨hle.1,hle.2.1⟩,λi v hv=>by rw [Nat.zero_add];exact kP ho i v hv,λj=>kQ ho j⟩⟩,kt hb2⟩
 clear hle ho hb2 HC;go_wp2_with fail;go_ret;exact ⟨_,_,rfl,HF.out⟩):P:=h
theorem zz25 {P:Prop} (h:P:=by
 have kb:Below W.heap.size W w3:=((k0.mono (T:=λc=>c < W.heap.size) (λ_ _ _=>trivial)).trans (Kept.grown hG (λc e h=>by have:=Option.some.inj e;omega))).below (λ_ h=>h) (Nat.le_refl _);rcases hO.2 with ⟨-,e⟩ | ⟨g,cap,cur,rfl,h⟩
 .have h9:=HL.out
  rw [e] at h9;simp at h9;omega
 .exact ⟨g,cap,rfl,hO,kb⟩):P:=h
theorem zz54 {P:Prop} (h:P:=by
 refine ⟨rfl,.inr ⟨W.heap.size,0,#[],rfl,Nat.le_refl _,?_,Nat.le_refl _,Nat.zero_le _,rfl,rfl⟩⟩;rw [<- bE];exact (MapKept.heap_alloc W _).1):P:=h
theorem zz60 {P:Prop} (h:P:=by
 go_wp2_with fail;go_ret;exact ⟨none,0,rfl,⟨Nat.le_refl _,Nat.zero_le _,λh=>absurd h (Nat.lt_irrefl 0)⟩,Kept.refl _ _⟩):P:=h
theorem E8 (x:ByteArray) (w:World) (hx:x.size<=281474976710656):Calls Tryz.prog 24 #[.string x] w λe w'=>e=.returned (.string x)∧Below w.heap.size w w':=by
 have:=Tryz.stringslite_Clone x w hx
 go_enter Tryz.func24,Tryz.ntmps24;go_wp2_with fail;refine this.mono ?_;rintro e w2 ⟨rfl,b2⟩;go_wp2_with fail;go_ret;exact ⟨rfl,b2⟩
theorem kP {W:World} {B g cap n sz:Nat} {e:TypeId} {xs:List Value} (h:W.ownsRow B e sz (.slice (some ⟨g,0,none⟩) n cap) n xs) (j:Nat) (v:Value) (hv:xs[j]? =some v):W.cell? ⟨g,j,none⟩=some v:=by
 exact zz86
theorem kQ {W:World} {B g cap n sz:Nat} {e:TypeId} {xs:List Value} (h:W.ownsRow B e sz (.slice (some ⟨g,0,none⟩) n cap) n xs) (j:Nat):W.frozen? ⟨g,j,none⟩=false:=by
 exact zz181
theorem nu {W:World} {B g cap n sz:Nat} {e:TypeId} {xs:List Value} (h:W.ownsRow B e sz (.slice (some ⟨g,0,none⟩) n cap) n xs):B<=g∧g < W.heap.size∧n<=cap∧cap<=maxLen:=by
 exact zz141
def Hv (W:World) (a:Option Addr) (n:Nat) (L:List Value):Prop:=0 < n->∃b o,a=some ⟨b,o,none⟩∧b < W.heap.size∧bD W L b o
theorem Tryz.info111:(Tryz.prog.info? 111).map (λi=>(i.zero,i.size,i.bytes))=some (some (.int .u32 0),1,4):=by kernel_rfl
theorem RF (a:Addr) (n c:Nat) (w:World):(binOp BinOp.eql 22 (.slice (some a) n c) (.slice none 0 0)).run Tryz.prog w=.ok (.bool false) w:=by kernel_rfl
theorem Vv (b o n c:Nat) (xs:List Value) (W:World) (hn:0 < n) (hn2:n<=1048576) (hl:xs.length=n * 1) (h1:∀u∈xs,u.oneCell'=true) (hc:bD W xs b o) (hb:b < W.heap.size):
  Calls Tryz.prog 130 #[.slice (some ⟨b,o,none⟩) n c] W λe W'=>∃g cap,e=.returned (.slice (some ⟨g,0,none⟩) n cap)∧W'.ownsRow W.heap.size 111 1 (.slice (some ⟨g,0,none⟩) n cap) n xs∧Below W.heap.size W W':=by
 obtain ⟨V0,bE⟩:∃V,W.alloc (.cells #[] 111)=V:=⟨_,rfl⟩
 have k0:Kept (λ_=>True) W V0:=by rw [<- bE];exact Kept.alloc _ _ _
 have z0:V0.heap.size=W.heap.size+1:=by rw [<- bE];simp
 have HOWN:Hid (V0.ownsRow W.heap.size 111 1 (.slice (some ⟨W.heap.size,0,none⟩) 0 0) 0 []):=by
  exact zz54
 have Ai:Hid (0 < n->∃b' o',some (⟨b,o,none⟩:Addr)=some ⟨b',o',none⟩∧bD V0 xs b' o'):=λ_=>⟨b,o,rfl,hc.kept k0 hb trivial⟩
 have HL:=hide hl;have H1:=hide h1;have HZ:Hid (W.heap.size<=V0.heap.size):=by show _<=_;omega
 have HM:Hid (0+n<=maxLen∧(0+n)* 4<=140737488355328):=⟨by unfold maxLen;omega,by omega⟩
 have iV:Hid (∀v' w3,w3.ownsRow W.heap.size 111 1 v' n xs->V0.grownBy w3 (some W.heap.size)->∃g cap,v'=.slice (some ⟨g,0,none⟩) n cap∧w3.ownsRow W.heap.size 111 1 (.slice (some ⟨g,0,none⟩) n cap) n xs∧Below W.heap.size W w3):=λv' w3 hO hG=>by
  exact zz25
 have gP:=hide bE;clear bE k0 z0 hl h1 hc;have hen:=RF ⟨b,o,none⟩ n c W;go_enter Tryz.func130,Tryz.ntmps130;go_wp2_with (at_builtin;rw [gP.out];refine vJ rfl _ _ 22 111 rfl Tryz.info111 Tryz.underlying22 rfl (by decide) W.heap.size V0 (.slice (some ⟨W.heap.size,0,none⟩) 0 0) 0 [] xs (some ⟨b,o,none⟩) n c rfl rfl HZ.out HOWN.out Ai.out HL.out H1.out HM.out.1 HM.out.2 ?_;rintro v' w3 hO3 hG3;rw [Nat.zero_add,List.nil_append] at hO3;obtain ⟨g,cap,rfl,ho,hbe⟩:=iV.out v' w3 hO3 hG3;have HO:=hide ho;have Dm:=hide hbe;clear hO3 hG3 ho hbe);go_ret;exact ⟨g,cap,rfl,HO.out,Dm.out⟩
theorem QE (a:Option Addr) (n c:Nat) (xs:List Value) (W:World) (hn2:n<=1048576) (hl:xs.length=n * 1) (h1:∀u∈xs,u.oneCell'=true) (h:Hv W a n xs):
  Calls Tryz.prog 120 #[.slice a n c] W λe W'=>∃a' cap,e=.returned (.slice a' n cap)∧aY W' (λb=>W.heap.size<=b∧b < W'.heap.size) a' n cap xs∧Kept (λ_=>True) W W':=by
 by_cases hn:0 < n
 .obtain ⟨b,o,rfl,hb,hc⟩:=h hn
  have HC:=hide (Vv b o n c xs W hn hn2 hl h1 hc hb);have hne:¬(n:Int)=0:=by omega
  clear hl h1 h hc;go_enter Tryz.func120,Tryz.ntmps120;exact zz13
 .have e:n=0:=by omega
  subst e;clear hl h1 h;go_enter Tryz.func120,Tryz.ntmps120;exact zz60
theorem Tryz.info9:(Tryz.prog.info? 9).map (λi=>(i.zero,i.size,i.bytes))=some (some (.string ⟨#[]⟩),1,16):=by kernel_rfl
theorem RH (a:Addr) (n c:Nat) (w:World):(binOp BinOp.eql 25 (.slice (some a) n c) (.slice none 0 0)).run Tryz.prog w=.ok (.bool false) w:=by kernel_rfl
theorem Vw (b o n c:Nat) (xs:List Value) (W:World) (hn:0 < n) (hn2:n<=1048576) (hl:xs.length=n * 1) (h1:∀u∈xs,u.oneCell'=true) (hc:bD W xs b o) (hb:b < W.heap.size):
  Calls Tryz.prog 133 #[.slice (some ⟨b,o,none⟩) n c] W λe W'=>∃g cap,e=.returned (.slice (some ⟨g,0,none⟩) n cap)∧W'.ownsRow W.heap.size 9 1 (.slice (some ⟨g,0,none⟩) n cap) n xs∧Below W.heap.size W W':=by
 obtain ⟨V0,bE⟩:∃V,W.alloc (.cells #[] 9)=V:=⟨_,rfl⟩
 have k0:Kept (λ_=>True) W V0:=by rw [<- bE];exact Kept.alloc _ _ _
 have z0:V0.heap.size=W.heap.size+1:=by rw [<- bE];simp
 have HOWN:Hid (V0.ownsRow W.heap.size 9 1 (.slice (some ⟨W.heap.size,0,none⟩) 0 0) 0 []):=by
  exact zz54
 have Ai:Hid (0 < n->∃b' o',some (⟨b,o,none⟩:Addr)=some ⟨b',o',none⟩∧bD V0 xs b' o'):=λ_=>⟨b,o,rfl,hc.kept k0 hb trivial⟩
 have HL:=hide hl;have H1:=hide h1;have HZ:Hid (W.heap.size<=V0.heap.size):=by show _<=_;omega
 have HM:Hid (0+n<=maxLen∧(0+n)* 16<=140737488355328):=⟨by unfold maxLen;omega,by omega⟩
 have iV:Hid (∀v' w3,w3.ownsRow W.heap.size 9 1 v' n xs->V0.grownBy w3 (some W.heap.size)->∃g cap,v'=.slice (some ⟨g,0,none⟩) n cap∧w3.ownsRow W.heap.size 9 1 (.slice (some ⟨g,0,none⟩) n cap) n xs∧Below W.heap.size W w3):=λv' w3 hO hG=>by
  exact zz25
 have gP:=hide bE;clear bE k0 z0 hl h1 hc;have hen:=RH ⟨b,o,none⟩ n c W;go_enter Tryz.func133,Tryz.ntmps133;go_wp2_with (at_builtin;rw [gP.out];refine vJ rfl _ _ 25 9 rfl Tryz.info9 Tryz.underlying25 rfl (by decide) W.heap.size V0 (.slice (some ⟨W.heap.size,0,none⟩) 0 0) 0 [] xs (some ⟨b,o,none⟩) n c rfl rfl HZ.out HOWN.out Ai.out HL.out H1.out HM.out.1 HM.out.2 ?_;rintro v' w3 hO3 hG3;rw [Nat.zero_add,List.nil_append] at hO3;obtain ⟨g,cap,rfl,ho,hbe⟩:=iV.out v' w3 hO3 hG3;have HO:=hide ho;have Dm:=hide hbe;clear hO3 hG3 ho hbe);go_ret;exact ⟨g,cap,rfl,HO.out,Dm.out⟩
theorem QF (a:Option Addr) (n c:Nat) (xs:List Value) (W:World) (hn2:n<=1048576) (hl:xs.length=n * 1) (h1:∀u∈xs,u.oneCell'=true) (h:Hv W a n xs):
  Calls Tryz.prog 128 #[.slice a n c] W λe W'=>∃a' cap,e=.returned (.slice a' n cap)∧aY W' (λb=>W.heap.size<=b∧b < W'.heap.size) a' n cap xs∧Kept (λ_=>True) W W':=by
 by_cases hn:0 < n
 .obtain ⟨b,o,rfl,hb,hc⟩:=h hn
  have HC:=hide (Vw b o n c xs W hn hn2 hl h1 hc hb);have hne:¬(n:Int)=0:=by omega
  clear hl h1 h hc;go_enter Tryz.func128,Tryz.ntmps128;exact zz13
 .have e:n=0:=by omega
  subst e;clear hl h1 h;go_enter Tryz.func128,Tryz.ntmps128;exact zz60
theorem Tryz.info35:(Tryz.prog.info? 35).map (λi=>(i.zero,i.size,i.bytes))=some (some (.agg #[.int .i64 0,.string ⟨#[]⟩,.bool false,.slice none 0 0,.slice none 0 0,.slice none 0 0,.slice none 0 0]),7,128):=by kernel_rfl
theorem RI (a:Addr) (n c:Nat) (w:World):(binOp BinOp.eql 32 (.slice (some a) n c) (.slice none 0 0)).run Tryz.prog w=.ok (.bool false) w:=by kernel_rfl
theorem Vy (b o n c:Nat) (xs:List Value) (W:World) (hn:0 < n) (hn2:n<=1048576) (hl:xs.length=n * 7) (h1:∀u∈xs,u.oneCell'=true) (hc:bD W xs b o) (hb:b < W.heap.size):
  Calls Tryz.prog 131 #[.slice (some ⟨b,o,none⟩) n c] W λe W'=>∃g cap,e=.returned (.slice (some ⟨g,0,none⟩) n cap)∧W'.ownsRow W.heap.size 35 7 (.slice (some ⟨g,0,none⟩) n cap) n xs∧Below W.heap.size W W':=by
 obtain ⟨V0,bE⟩:∃V,W.alloc (.cells #[] 35)=V:=⟨_,rfl⟩
 have k0:Kept (λ_=>True) W V0:=by rw [<- bE];exact Kept.alloc _ _ _
 have z0:V0.heap.size=W.heap.size+1:=by rw [<- bE];simp
 have HOWN:Hid (V0.ownsRow W.heap.size 35 7 (.slice (some ⟨W.heap.size,0,none⟩) 0 0) 0 []):=by
  exact zz54
 have Ai:Hid (0 < n->∃b' o',some (⟨b,o,none⟩:Addr)=some ⟨b',o',none⟩∧bD V0 xs b' o'):=λ_=>⟨b,o,rfl,hc.kept k0 hb trivial⟩
 have HL:=hide hl;have H1:=hide h1;have HZ:Hid (W.heap.size<=V0.heap.size):=by show _<=_;omega
 have HM:Hid (0+n<=maxLen∧(0+n)* 128<=140737488355328):=⟨by unfold maxLen;omega,by omega⟩
 have iV:Hid (∀v' w3,w3.ownsRow W.heap.size 35 7 v' n xs->V0.grownBy w3 (some W.heap.size)->∃g cap,v'=.slice (some ⟨g,0,none⟩) n cap∧w3.ownsRow W.heap.size 35 7 (.slice (some ⟨g,0,none⟩) n cap) n xs∧Below W.heap.size W w3):=λv' w3 hO hG=>by
  exact zz25
 have gP:=hide bE;clear bE k0 z0 hl h1 hc;have hen:=RI ⟨b,o,none⟩ n c W;go_enter Tryz.func131,Tryz.ntmps131;go_wp2_with (at_builtin;rw [gP.out];refine vJ rfl _ _ 32 35 rfl Tryz.info35 Tryz.underlying32 rfl (by decide) W.heap.size V0 (.slice (some ⟨W.heap.size,0,none⟩) 0 0) 0 [] xs (some ⟨b,o,none⟩) n c rfl rfl HZ.out HOWN.out Ai.out HL.out H1.out HM.out.1 HM.out.2 ?_;rintro v' w3 hO3 hG3;rw [Nat.zero_add,List.nil_append] at hO3;obtain ⟨g,cap,rfl,ho,hbe⟩:=iV.out v' w3 hO3 hG3;have HO:=hide ho;have Dm:=hide hbe;clear hO3 hG3 ho hbe);go_ret;exact ⟨g,cap,rfl,HO.out,Dm.out⟩
theorem QG (a:Option Addr) (n c:Nat) (xs:List Value) (W:World) (hn2:n<=1048576) (hl:xs.length=n * 7) (h1:∀u∈xs,u.oneCell'=true) (h:Hv W a n xs):
  Calls Tryz.prog 122 #[.slice a n c] W λe W'=>∃a' cap,e=.returned (.slice a' n cap)∧aY W' (λb=>W.heap.size<=b∧b < W'.heap.size) a' n cap xs∧Kept (λ_=>True) W W':=by
 by_cases hn:0 < n
 .obtain ⟨b,o,rfl,hb,hc⟩:=h hn
  have HC:=hide (Vy b o n c xs W hn hn2 hl h1 hc hb);have hne:¬(n:Int)=0:=by omega
  clear hl h1 h hc;go_enter Tryz.func122,Tryz.ntmps122;exact zz13
 .have e:n=0:=by omega
  subst e;clear hl h1 h;go_enter Tryz.func122,Tryz.ntmps122;exact zz60
theorem Tryz.info71:(Tryz.prog.info? 71).map (λi=>(i.zero,i.size,i.bytes))=some (some (.agg #[.string ⟨#[]⟩,.slice none 0 0,.int .i64 0,.string ⟨#[]⟩,.bool false,.slice none 0 0,.slice none 0 0,.slice none 0 0,.slice none 0 0]),9,168):=by kernel_rfl
theorem RJ (a:Addr) (n c:Nat) (w:World):(binOp BinOp.eql 33 (.slice (some a) n c) (.slice none 0 0)).run Tryz.prog w=.ok (.bool false) w:=by kernel_rfl
theorem Vz (b o n c:Nat) (xs:List Value) (W:World) (hn:0 < n) (hn2:n<=1048576) (hl:xs.length=n * 9) (h1:∀u∈xs,u.oneCell'=true) (hc:bD W xs b o) (hb:b < W.heap.size):
  Calls Tryz.prog 132 #[.slice (some ⟨b,o,none⟩) n c] W λe W'=>∃g cap,e=.returned (.slice (some ⟨g,0,none⟩) n cap)∧W'.ownsRow W.heap.size 71 9 (.slice (some ⟨g,0,none⟩) n cap) n xs∧Below W.heap.size W W':=by
 obtain ⟨V0,bE⟩:∃V,W.alloc (.cells #[] 71)=V:=⟨_,rfl⟩
 have k0:Kept (λ_=>True) W V0:=by rw [<- bE];exact Kept.alloc _ _ _
 have z0:V0.heap.size=W.heap.size+1:=by rw [<- bE];simp
 have HOWN:Hid (V0.ownsRow W.heap.size 71 9 (.slice (some ⟨W.heap.size,0,none⟩) 0 0) 0 []):=by
  exact zz54
 have Ai:Hid (0 < n->∃b' o',some (⟨b,o,none⟩:Addr)=some ⟨b',o',none⟩∧bD V0 xs b' o'):=λ_=>⟨b,o,rfl,hc.kept k0 hb trivial⟩
 have HL:=hide hl;have H1:=hide h1;have HZ:Hid (W.heap.size<=V0.heap.size):=by show _<=_;omega
 have HM:Hid (0+n<=maxLen∧(0+n)* 168<=140737488355328):=⟨by unfold maxLen;omega,by omega⟩
 have iV:Hid (∀v' w3,w3.ownsRow W.heap.size 71 9 v' n xs->V0.grownBy w3 (some W.heap.size)->∃g cap,v'=.slice (some ⟨g,0,none⟩) n cap∧w3.ownsRow W.heap.size 71 9 (.slice (some ⟨g,0,none⟩) n cap) n xs∧Below W.heap.size W w3):=λv' w3 hO hG=>by
  exact zz25
 have gP:=hide bE;clear bE k0 z0 hl h1 hc;have hen:=RJ ⟨b,o,none⟩ n c W;go_enter Tryz.func132,Tryz.ntmps132;go_wp2_with (at_builtin;rw [gP.out];refine vJ rfl _ _ 33 71 rfl Tryz.info71 Tryz.underlying33 rfl (by decide) W.heap.size V0 (.slice (some ⟨W.heap.size,0,none⟩) 0 0) 0 [] xs (some ⟨b,o,none⟩) n c rfl rfl HZ.out HOWN.out Ai.out HL.out H1.out HM.out.1 HM.out.2 ?_;rintro v' w3 hO3 hG3;rw [Nat.zero_add,List.nil_append] at hO3;obtain ⟨g,cap,rfl,ho,hbe⟩:=iV.out v' w3 hO3 hG3;have HO:=hide ho;have Dm:=hide hbe;clear hO3 hG3 ho hbe);go_ret;exact ⟨g,cap,rfl,HO.out,Dm.out⟩
theorem RL (a:Option Addr) (n c:Nat) (xs:List Value) (W:World) (hn2:n<=1048576) (hl:xs.length=n * 9) (h1:∀u∈xs,u.oneCell'=true) (h:Hv W a n xs):
  Calls Tryz.prog 124 #[.slice a n c] W λe W'=>∃a' cap,e=.returned (.slice a' n cap)∧aY W' (λb=>W.heap.size<=b∧b < W'.heap.size) a' n cap xs∧Kept (λ_=>True) W W':=by
 by_cases hn:0 < n
 .obtain ⟨b,o,rfl,hb,hc⟩:=h hn
  have HC:=hide (Vz b o n c xs W hn hn2 hl h1 hc hb);have hne:¬(n:Int)=0:=by omega
  clear hl h1 h hc;go_enter Tryz.func124,Tryz.ntmps124;exact zz13
 .have e:n=0:=by omega
  subst e;clear hl h1 h;go_enter Tryz.func124,Tryz.ntmps124;exact zz60
def WO (v:Value):Option (DataW Value×List MemPlace):=some (.held v,[])
def TM (w:World) (M n:Nat):Prop:=
 ∃D:DataW Value,w.ownsMap Tryz.prog 9 WO M n D∧∀t:ByteArray,(Maps.has D (.string t.data.toList)=true∧D.atKey (.string t.data.toList) (.held (.agg #[.string ⟨#[]⟩]))=.held (.agg #[.string t]))∨(Maps.has D (.string t.data.toList)=false∧D.atKey (.string t.data.toList) (.held (.agg #[.string ⟨#[]⟩]))=.held (.agg #[.string ⟨#[]⟩]))
theorem TM.lt {w:World} {M n:Nat} (h:TM w M n):M < w.heap.size:=by
 obtain ⟨D,hD,-⟩:=h;exact hD.lt
theorem TM.keep {w w':World} {M n:Nat} (h:TM w M n) (hb:w'.heap[M]? =w.heap[M]?):TM w' M n:=by
 exact zz234
theorem TM.kept {w w':World} {M n:Nat} {S:Nat->Prop} (h:TM w M n) (k:Kept S w w') (hS:S M):TM w' M n:=h.keep (k.block M h.lt hS)
theorem TM.mono {w:World} {M n m:Nat} (h:TM w M n) (hm:n<=m):TM w M m:=by
 obtain ⟨D,hD,h3⟩:=h;exact ⟨D,hD.mono hm,h3⟩
theorem TM.start (w:World):TM (w.alloc (.map #[] 0)) w.heap.size 0:=
 ⟨.map [],World.ownsMap_made w _ _ _,λt=>.inr ⟨by simp [Maps.has],by simp [DataW.atKey]⟩⟩
theorem P9 (w:World):(zeroValue 208).run Tryz.prog w=.ok (.agg #[.string ⟨#[]⟩]) w:=by kernel_rfl
theorem Qa:Tryz.prog.underlying 84=some (.map 9 208):=by kernel_rfl
theorem TM.look {w:World} {M n:Nat} (h:TM w M n) (t:ByteArray) (ht:t.size<=maxLen):
  (Instr.lookup 84 (.map (some M)) (.string t) true).run Tryz.prog w=.ok (.tuple #[.agg #[.string t],.bool true]) w∨(Instr.lookup 84 (.map (some M)) (.string t) true).run Tryz.prog w=.ok (.tuple #[.agg #[.string ⟨#[]⟩],.bool false]) w:=by
 obtain ⟨D,hD,hat⟩:=h;obtain ⟨v,ps,hrun,hv⟩:=hD.look_ok (Maps.string_keyed Tryz.underlying9) Qa (P9 w) (zd:=.held (.agg #[.string ⟨#[]⟩])) (zp:=[]) rfl (WideMaps.keyOf_string_mk Tryz.underlying9 ht);rcases hat t with ⟨h1,h2⟩ | ⟨h1,h2⟩
 .rw [h2] at hv
  simp only [WO,Option.some.injEq,Prod.mk.injEq,DataW.held.injEq] at hv;rw [h1,hv.1] at hrun;exact .inl hrun
 .rw [h2] at hv
  simp only [WO,Option.some.injEq,Prod.mk.injEq,DataW.held.injEq] at hv;rw [h1,hv.1] at hrun;exact .inr hrun
theorem TM.put {w:World} {M n:Nat} (h:TM w M n) (hn:n < maxLen) (t:ByteArray) (ht:t.size<=maxLen):∃w',(Instr.mapUpdate 84 (.map (some M)) (.string t) (.agg #[.string t])).run Tryz.prog w=.ok () w'∧TM w' M (n+1)∧Kept (λc=>c≠M) w w':=by
 obtain ⟨D,hD,hat⟩:=h;obtain ⟨w',hrun,r1,r2⟩:=hD.update (Maps.string_keyed Tryz.underlying9) Qa hn (key:=.string t) (val:=.agg #[.string t]) (WideMaps.keyOf_string_mk Tryz.underlying9 ht) (d:=.held (.agg #[.string t])) (ps:=[]) rfl;refine ⟨w',hrun,⟨_,r1,λs=>?_⟩,Kept.grown r2 (λc hc hx=>hx (Option.some.inj hc).symm)⟩;have hI:=hD.isMap
 by_cases e:s=t
 .subst e
  exact .inl ⟨by rw [Maps.has_put_same hI (k:=.string s.data.toList) trivial],by rw [Maps.atKey_put_same hI (k:=.string s.data.toList) trivial]⟩
 .have hne:(Lit.string s.data.toList)≠.string t.data.toList:=λh=>by
   injection h with h;exact e (ByteArray.ext (Array.ext' h))
  rw [Maps.has_put_other hne,Maps.atKey_put_other hne];exact hat s
theorem He {V:World} {CB TB n:Nat} (h9:V.cell? ⟨CB,9,none⟩=some (.map (some TB))) (hT:TM V TB n) (hn:n < 10000000) (t:ByteArray) (ht:t.size<=16777216):
  Calls Tryz.prog 88 #[.pointer (some ⟨CB,0,none⟩),.string t] V λe V'=>e=.returned (.string t)∧TM V' TB (n+1)∧Kept (λc=>c≠TB) V V':=by
 have ht2:t.size<=maxLen:=by unfold maxLen;omega
 have hn2:n < maxLen:=by unfold maxLen;omega
 have MW:CB < V.heap.size:=block_lt_of_cell h9;rcases hT.look t ht2 with hl | hl
 .have HF:Hid (∀W,Kept (λ_=>True) V W->TM W TB (n+1)∧Kept (λc=>c≠TB) V W):=λW k=>⟨(hT.kept k trivial).mono (Nat.le_succ _),k.mono (λ_ _ _=>trivial)⟩
  have k1:Kept (λ_=>True) V (V.alloc (.cells #[.string t] 208)):=Kept.alloc _ _ _;have bx:Bx (V.alloc (.cells #[.string t] 208)) V.heap.size [.string t]:=Bx.new _ _ _;have b0:=bx.ae 0 _ rfl;have HK:=hide (HF.out _ k1);clear hT HF k1 bx;go_enter Tryz.func88,Tryz.ntmps88;go_wp2_with fail
  all_goals go_ret
  exact ⟨rfl,HK.out⟩
 .obtain ⟨V1,hV1⟩:∃W,V.alloc (.cells #[.string ⟨#[]⟩] 208)=W:=⟨_,rfl⟩
  have k1:Kept (λ_=>True) V V1:=by rw [<- hV1];exact Kept.alloc _ _ _
  have z1:V1.heap.size=V.heap.size+1:=by rw [<- hV1];simp
  have bx:Bx V1 V.heap.size [.string ⟨#[]⟩]:=by rw [<- hV1];exact Bx.new _ _ _
  have b0:=bx.ae 0 _ rfl;have f0:=bx.live 0;have pz:=hide (E8 t V1 (by omega));have Vj:Hid (∀w2,Below V1.heap.size V1 w2->((w2.setCell ⟨V.heap.size,0,none⟩ (.string t)).drew.cell? ⟨CB,9,none⟩=some (.map (some TB))∧(w2.setCell ⟨V.heap.size,0,none⟩ (.string t)).drew.cell? ⟨V.heap.size,0,none⟩=some (.string t))∧((w2.setCell ⟨V.heap.size,0,none⟩ (.string t)).cell? ⟨CB,9,none⟩=some (.map (some TB))∧(w2.setCell ⟨V.heap.size,0,none⟩ (.string t)).cell? ⟨V.heap.size,0,none⟩=some (.string t))∧w2.cell? ⟨V.heap.size,0,none⟩=some (.string ⟨#[]⟩)∧w2.frozen? ⟨V.heap.size,0,none⟩=false∧∃w3,(Instr.mapUpdate 84 (.map (some TB)) (.string t) (.agg #[.string t])).run Tryz.prog (w2.setCell ⟨V.heap.size,0,none⟩ (.string t)).drew=.ok () w3∧w3.cell? ⟨V.heap.size,0,none⟩=some (.string t)∧Hid (TM w3 TB (n+1)∧Kept (λc=>c≠TB) V w3)):=λw2 b2=>by
   have yl:=bx.below b2;have bx3:=yl.put 0 (.string t) (by simp);have kd:=Kept.drew (λ_=>True) (w2.setCell ⟨V.heap.size,0,none⟩ (.string t));have WQ:=bx3.kept kd trivial;have tJ:Kept (λ_=>True) V w2:=k1.trans (kt b2);have kS:Kept (λc=>c≠V.heap.size) w2 (w2.setCell ⟨V.heap.size,0,none⟩ (.string t)):=Kept.setCell _ _ _ _ (λh=>h rfl);have Wt:TM (w2.setCell ⟨V.heap.size,0,none⟩ (.string t)).drew TB n:=((hT.kept tJ trivial).kept kS (by have:=hT.lt;omega)).kept kd trivial;obtain ⟨w3,r1,r2,r3⟩:=Wt.put hn2 t ht2;have hc9:(w2.setCell ⟨V.heap.size,0,none⟩ (.string t)).cell? ⟨CB,9,none⟩=some (.map (some TB)):=by
    rw [World.cell?_setCell_other _ _ _ _ (λe=>by have:=congrArg Addr.block e;simp at this;omega)];exact (tJ.cell (p:=⟨CB,9,none⟩) MW trivial).trans h9
   refine ⟨⟨hc9,WQ.ae 0 _ rfl⟩,⟨hc9,bx3.ae 0 _ rfl⟩,yl.ae 0 _ rfl,yl.live 0,w3,r1,?_,r2,?_⟩
   .rw [r3.cell (p:=⟨V.heap.size,0,none⟩) WQ.lt (by show V.heap.size≠TB;have:=hT.lt;omega)]
    exact WQ.ae 0 _ rfl
   .exact ⟨(r3.os.trans (kd.os.trans (kS.os.trans tJ.os))),(r3.tape.trans (kd.tape.trans (kS.tape.trans tJ.tape))),(r3.output.trans (kd.output.trans (kS.output.trans tJ.output))),by have:=r3.size;have:=kd.size;have:=kS.size;have:=tJ.size;omega,λc hc hs=>by
     rw [r3.block c (by have:=kd.size;have:=kS.size;have:=tJ.size;omega) hs,kd.block c (by have:=kS.size;have:=tJ.size;omega) trivial,kS.block c (by have:=tJ.size;omega) (by show c≠V.heap.size;omega),tJ.block c hc trivial]⟩
  have gD:=hide hV1;clear hT k1 z1 bx hV1 hn2 ht2 MW;go_enter Tryz.func88,Tryz.ntmps88
  go_upto_region 2 with fail
  rw [gD.out]
  go_upto_region 4 with (go_at_call 24;refine pz.out.mono ?_;rintro e w2 ⟨rfl,b2⟩;obtain ⟨⟨p1,p2⟩,⟨p3,p4⟩,p5,p6,w3,p7,p8,p9⟩:=Vj.out w2 b2;clear b2)
  go_region
  all_goals
   go_wp2_with fail;go_ret;exact ⟨rfl,p9.out⟩
theorem zz97 {P:Prop} (h:P:=by
 go_wp2_with fail;refine HR.out.mono ?_;rintro e w ⟨rfl,rfl⟩;go_wp2_with fail;refine HN.out.mono ?_;rintro e w2 ⟨a',cap,rfl,r1,r2⟩;have R:=hide (And.intro r1 r2);clear r1 r2;go_wp2_with fail;go_ret2;exact ⟨_,_,rfl,R.out.1,R.out.2⟩):P:=h
theorem Kept.beyond {S:Nat->Prop} {A B C:World} {b:Nat} (h:Kept S A B) (k:Kept (λc=>c≠b) B C) (hb:A.heap.size<=b):Kept S A C:=
 ⟨k.os.trans h.os,k.tape.trans h.tape,k.output.trans h.output,Nat.le_trans h.size k.size,λc hc hs=>(k.block c (Nat.lt_of_lt_of_le hc h.size) (by show c≠b;omega)).trans (h.block c hc hs)⟩
theorem yo (CB:Nat) (x:Int) (V:World):Calls Tryz.prog 119 #[.pointer (some ⟨CB,0,none⟩),.int .i64 x,.bool true] V λe V'=>e=.returned (.bool true)∧V'=V:=by
 go_enter Tryz.func119,Tryz.ntmps119;exact zz20
theorem MU (CB:Nat) (p:Value) (a:Option Addr) (n c:Nat) (xs:List Value) (W:World) (hn2:n<=1048576) (hl:xs.length=n * 1) (h1:∀u∈xs,u.oneCell'=true) (h:Hv W a n xs):
  Calls Tryz.prog 90 #[.pointer (some ⟨CB,0,none⟩),p,.slice a n c,.bool true] W λe W'=>∃a' cap,e=.returned (.tuple #[.slice a' n cap,.bool true])∧aY W' (λb=>W.heap.size<=b∧b < W'.heap.size) a' n cap xs∧Kept (λ_=>True) W W':=by
 have HN:=hide (QE a n c xs W hn2 hl h1 h);have HR:=hide (yo CB n W);have hx:(n:Int)<=9223372036854775807:=by omega
 clear hl h1 h;go_enter Tryz.func90,Tryz.ntmps90;exact zz97
theorem MV (CB:Nat) (p:Value) (a:Option Addr) (n c:Nat) (xs:List Value) (W:World) (hn2:n<=1048576) (hl:xs.length=n * 1) (h1:∀u∈xs,u.oneCell'=true) (h:Hv W a n xs):
  Calls Tryz.prog 118 #[.pointer (some ⟨CB,0,none⟩),p,.slice a n c,.bool true] W λe W'=>∃a' cap,e=.returned (.tuple #[.slice a' n cap,.bool true])∧aY W' (λb=>W.heap.size<=b∧b < W'.heap.size) a' n cap xs∧Kept (λ_=>True) W W':=by
 have HN:=hide (QF a n c xs W hn2 hl h1 h);have HR:=hide (yo CB n W);have hx:(n:Int)<=9223372036854775807:=by omega
 clear hl h1 h;go_enter Tryz.func118,Tryz.ntmps118;exact zz97
theorem aY.keep {W W':World} {T:Nat->Prop} {a:Option Addr} {n cap:Nat} {L:List Value} {S:Nat->Prop} (h:aY W T a n cap L) (k:Kept S W W') (hS:∀c,T c->S c∧c < W.heap.size) {T':Nat->Prop} (hT:∀c,T c->T' c):aY W' T' a n cap L:=
 ⟨h.1,h.2.1,λhn=>by
  obtain ⟨b,e,t,c,f⟩:=h.2.2 hn;exact ⟨b,e,hT b t,c.kept k (hS b t).2 (hS b t).1,λj=>(k.frozen (p:=⟨b,j,none⟩) (hS b t).2 (hS b t).1).trans (f j)⟩⟩
theorem aY.same {W:World} {T:Nat->Prop} {b n cap i:Nat} {L:List Value} {v:Value} (h:aY W T (some ⟨b,0,none⟩) n cap L) (hv:L[i]? =some v):aY (W.setCell ⟨b,i,none⟩ v) T (some ⟨b,0,none⟩) n cap L:=
 ⟨h.1,h.2.1,λhn=>by
  obtain ⟨b',e,t,c,f⟩:=h.2.2 hn
  cases e
  refine ⟨b,rfl,t,λj u hu=>?_,λj=>by rw [World.frozen?_setCell];exact f j⟩;have h0:=c i v hv;rw [Nat.zero_add] at h0 ⊢
  by_cases e:j=i
  .subst e
   rw [hv] at hu
   cases hu
   exact World.cell?_setCell_same _ _ _ h0
  .rw [World.cell?_setCell_other _ _ _ _ (λx=>e (by have:=congrArg Addr.off x;simp at this;omega))]
   have:=c j u hu
   rwa [Nat.zero_add] at this⟩
theorem xH {V:World} {CB TB n:Nat} (h9:V.cell? ⟨CB,9,none⟩=some (.map (some TB))) (hT:TM V TB n) (hne:CB≠TB) (a:Option Addr) (m c:Nat) (L:List ByteArray) (hm:L.length=m) (hn:n+m < 10000000) (hm2:m<=1048576) (hL:∀x∈L,x.size<=16777216) (h:Hv V a m (L.map Value.string)):
  Calls Tryz.prog 89 #[.pointer (some ⟨CB,0,none⟩),.slice a m c,.bool true] V λe V'=>∃a' cap,e=.returned (.slice a' m cap)∧aY V' (λb=>V.heap.size<=b∧b < V'.heap.size) a' m cap (L.map Value.string)∧TM V' TB (n+m)∧Kept (λc=>c≠TB) V V':=by
 have HC:=hide (MV CB (.pointer (some ⟨CB,1,none⟩)) a m c (L.map Value.string) V hm2 (by simp [hm]) (λu hu=>by obtain ⟨x,-,rfl⟩:=List.mem_map.1 hu;rfl) h);have MW:CB < V.heap.size:=block_lt_of_cell h9;have HV:Hid (V.cell? ⟨CB,9,none⟩=some (.map (some TB))∧TM V TB n∧CB≠TB∧CB < V.heap.size∧TB < V.heap.size):=⟨h9,hT,hne,MW,hT.lt⟩
 have HL:=hide hL;have HM:=hide hm;have HNM:=hide hn;clear h9 hT hne hL h MW hm;go_enter Tryz.func89,Tryz.ntmps89;go_wp2_with fail;refine HC.out.mono ?_;rintro e w1 ⟨a',cap,rfl,r1,r2⟩;have HI:Hid (aY w1 (λb=>V.heap.size<=b∧b < w1.heap.size) a' m cap (L.map Value.string)∧TM w1 TB (n+0)∧Kept (λc=>c≠TB) V w1):=⟨r1,HV.out.2.1.kept r2 trivial,r2.mono (λ_ _ _=>trivial)⟩
 have hcap:m<=cap:=r1.1;have hmx:(m:Int)<=9223372036854775807:=by omega
 clear r1 r2 HC;go_wp2_with fail
 go_loopw [9,25] (λ_ Em wr=>∃i:Nat,Em=.int .i64 i∧i<=m∧Hid (aY wr (λb=>V.heap.size<=b∧b < wr.heap.size) a' m cap (L.map Value.string)∧TM wr TB (n+i)∧Kept (λc=>c≠TB) V wr)) (λ_ Em _=>m - (intOf Em).toNat)
 case atStart=>exact ⟨0,rfl,Nat.zero_le _,HI⟩
 case round=>
  obtain ⟨i,rfl,hi,hI⟩:=hrel
  by_cases hlt:i < m
  .obtain ⟨x,hx⟩:∃x,L[i]? =some x:=⟨_,List.getElem?_eq_getElem (by rw [HM.out];exact hlt)⟩
   obtain ⟨b,rfl,⟨hb1,hb2⟩,hc,hf⟩:=hI.out.1.2.2 (by omega);have hxv:(L.map Value.string)[i]? =some (.string x):=by rw [List.getElem?_map,hx];rfl
   have hcx:=hc i _ hxv;rw [Nat.zero_add] at hcx;have hii:(i:Int) < m:=by omega
   have HO:=hide (He ((hI.out.2.2.cell (p:=⟨CB,9,none⟩) HV.out.2.2.2.1 HV.out.2.2.1).trans HV.out.1) hI.out.2.1 (by have:=HNM.out;omega) x (HL.out x (List.mem_of_getElem? hx)));have pK:Hid (∀w2,TM w2 TB (n+i+1)->Kept (λc=>c≠TB) wr w2->(w2.cell? ⟨b,i,none⟩=some (.string x)∧w2.frozen? ⟨b,i,none⟩=false)∧Hid (aY (w2.setCell ⟨b,i,none⟩ (.string x)) (λc=>V.heap.size<=c∧c < (w2.setCell ⟨b,i,none⟩ (.string x)).heap.size) (some ⟨b,0,none⟩) m cap (L.map Value.string)∧TM (w2.setCell ⟨b,i,none⟩ (.string x)) TB (n+(i+1))∧Kept (λc=>c≠TB) V (w2.setCell ⟨b,i,none⟩ (.string x)))):=λw2 t2 k2=>by
    have hbT:b≠TB:=by have:=HV.out.2.2.2.2;omega
    have hz:=k2.size;have r2:=hI.out.1.keep k2 (T':=λc=>V.heap.size<=c∧c < w2.heap.size) (λc hc=>⟨by show c≠TB;have:=HV.out.2.2.2.2;have:=hc.1;omega,hc.2⟩) (λc hc=>⟨hc.1,Nat.lt_of_lt_of_le hc.2 hz⟩);have ks:Kept (λc=>c≠b) w2 (w2.setCell ⟨b,i,none⟩ (.string x)):=Kept.setCell _ _ _ _ (λh=>h rfl);obtain ⟨b',e',-,c2,f2⟩:=r2.2.2 (by omega)
    cases e'
    have c2':=c2 i _ hxv;rw [Nat.zero_add] at c2';refine ⟨⟨c2',f2 i⟩,?_,?_,?_⟩
    .have:=r2.same hxv
     exact ⟨this.1,this.2.1,λh=>by
      obtain ⟨b',e',t',q⟩:=this.2.2 h;exact ⟨b',e',by simpa [World.setCell] using t',q⟩⟩
    .exact t2.kept ks (by show TB≠b;omega)
    .exact (hI.out.2.2.trans k2).beyond ks hb1
   clear hI hxv hc hf hb1 hb2;go_wp2_with (go_at_call 88;refine HO.out.mono ?_;rintro e w2 ⟨rfl,t2,k2⟩;obtain ⟨⟨p1,p2⟩,p3⟩:=pK.out w2 t2 k2;clear t2 k2);go_roundw
   case rel=>exact ⟨i+1,by go_num,by omega,p3⟩
   case measure=>simp [intOf];omega
  .have e:i=m:=by omega
   subst e;go_wp2_with fail;go_ret;exact ⟨a',cap,rfl,hI.out.1,hI.out.2.1,hI.out.2.2⟩
end Go.Proofs.YthfnobboalhihaaGreat
