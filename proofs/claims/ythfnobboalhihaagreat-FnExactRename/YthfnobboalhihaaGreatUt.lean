import Derived.Test.YthfnobboalhihaaGreatVa
import Derived.Test.YthfnobboalhihaaGreatRows
import Derived.Deep.AppendLies
import Derived.Laws.OwnMore
import Derived.Maps.AppendAt
import Derived.Deep.DeepCutAuto
namespace Go.Proofs.YthfnobboalhihaaGreat
open Go.RowKit Go.Joins
theorem zz103 {P:Prop} (h:P:=by
 refine ⟨h'.subs.app (g.mono hlo).subs,?_,by rw [Fo.aQ];exact h'.live.app g.live⟩;rw [Fo.aQ,List.nodup_append];refine ⟨h.nodup,g.nodup,λx hx y hy e=>?_⟩;subst e;have h1:=(h.subs.bu x hx).2;have h2:=(g.subs.bu x hy).1;omega):P:=h
theorem Fit.split {E:Nat->List bq}:∀{F:Fo} {fs gs:List bq},Fit E F (fs++gs)->∃x r,F=x.app r∧Fit E x fs∧Fit E r gs∧x.len=fs.length:=by
 intro F fs
 induction fs generalizing F with
 | nil=>intro gs h;exact ⟨.nil,F,rfl,trivial,h,rfl⟩
 | cons f fs ih=>
  intro gs h
  cases f with
  | i=>
   obtain ⟨x,r,rfl,hx,hr⟩:=eu h;obtain ⟨y,q,rfl,h1,h2,h3⟩:=ih hr;exact ⟨.v (.int .i64 x) y,q,rfl,⟨hx,h1⟩,h2,by simp only [Fo.len,h3,List.length_cons]⟩
  | u=>
   obtain ⟨x,r,rfl,hx,hr⟩:=jy h;obtain ⟨y,q,rfl,h1,h2,h3⟩:=ih hr;exact ⟨.v (.int .u32 x) y,q,rfl,⟨hx,h1⟩,h2,by simp only [Fo.len,h3,List.length_cons]⟩
  | b=>
   obtain ⟨x,r,rfl,hr⟩:=dE h;obtain ⟨y,q,rfl,h1,h2,h3⟩:=ih hr;exact ⟨.v (.bool x) y,q,rfl,h1,h2,by simp only [Fo.len,h3,List.length_cons]⟩
  | t=>
   obtain ⟨x,r,rfl,hx,hr⟩:=aU h;obtain ⟨y,q,rfl,h1,h2,h3⟩:=ih hr;exact ⟨.v (.string x) y,q,rfl,⟨hx,h1⟩,h2,by simp only [Fo.len,h3,List.length_cons]⟩
  | s k=>
   obtain ⟨a,n,cap,ks,r,rfl,hx,hr⟩:=ay h;obtain ⟨y,q,rfl,h1,h2,h3⟩:=ih hr;exact ⟨.s a n cap ks y,q,rfl,⟨hx,h1⟩,h2,by simp only [Fo.len,h3,List.length_cons]⟩
theorem Fit.next {E:Nat->List bq} {r:Fo} {fs:List bq} {n i:Nat} (h:Fit E r (rep fs (n - i))) (hi:i < n):∃x q,r=x.app q∧Fit E x fs∧Fit E q (rep fs (n - (i+1)))∧x.len=fs.length:=by
 have e:n - i=(n - (i+1))+1:=by omega
 rw [e] at h;exact Fit.split h
theorem Fit.done {E:Nat->List bq} {r:Fo} {fs:List bq} {n i:Nat} (h:Fit E r (rep fs (n - i))) (hi:¬i < n):r=.nil:=by
 have e:n - i=0:=by omega
 rw [e] at h;exact ai h
theorem Fit.app {E:Nat->List bq}:∀{F G:Fo} {fs gs:List bq},Fit E F fs->Fit E G gs->Fit E (F.app G) (fs++gs):=by
 intro F G fs
 induction fs generalizing F with
 | nil=>intro gs h k;rw [ai h];exact k
 | cons f fs ih=>
  intro gs h k
  cases f with
  | i=>obtain ⟨x,r,rfl,hx,hr⟩:=eu h;exact ⟨hx,ih hr k⟩
  | b=>obtain ⟨x,r,rfl,hr⟩:=dE h;exact ih hr k
  | u=>obtain ⟨x,r,rfl,hx,hr⟩:=jy h;exact ⟨hx,ih hr k⟩
  | t=>obtain ⟨x,r,rfl,hx,hr⟩:=aU h;exact ⟨hx,ih hr k⟩
  | s k'=>obtain ⟨a,n,cap,ks,r,rfl,hx,hr⟩:=ay h;exact ⟨hx,ih hr k⟩
theorem Cc (fs:List bq):∀n,rep fs n++fs=rep fs (n+1)
 | 0=>by simp [rep]
 | n+1=>by rw [rep,List.append_assoc,Cc fs n];rfl
theorem dz (fs:List bq):∀n,(rep fs n).length=n * fs.length
 | 0=>by simp [rep]
 | n+1=>by rw [rep,List.length_append,dz fs n,Nat.add_mul];omega
theorem Fit.len {E:Nat->List bq}:∀{F:Fo} {fs:List bq},Fit E F fs->F.len=fs.length:=by
 intro F fs h
 have:=Fit.split (F:=F) (fs:=fs) (gs:=[]) (by rw [List.append_nil];exact h)
 obtain ⟨x,r,rfl,-,h2,h3⟩:=this;rw [ai h2,Fo.jl];exact h3
theorem Fo.aG.fit {E:Nat->List bq}:∀{F G:Fo} {fs:List bq},G.aG F->Fit E F fs->Fit E G fs:=by
 intro F
 induction F with
 | nil=>intro G fs hs h;rw [Fo.cB hs];exact h
 | v x r ih=>
  intro G fs hs h;obtain ⟨q,rfl,hq⟩:=Fo.aP hs
  cases fs with
  | nil=>exact absurd (ai h) (by simp)
  | cons f fs=>
   cases f with
   | i=>obtain ⟨y,r',e,hy,hr⟩:=eu h;cases e;exact ⟨hy,ih hq hr⟩
   | b=>obtain ⟨y,r',e,hr⟩:=dE h;cases e;exact (show Fit E q fs from ih hq hr)
   | u=>obtain ⟨y,r',e,hy,hr⟩:=jy h;cases e;exact ⟨hy,ih hq hr⟩
   | t=>obtain ⟨y,r',e,hy,hr⟩:=aU h;cases e;exact ⟨hy,ih hq hr⟩
   | s k=>obtain ⟨a,n,cap,ks,r',e,-⟩:=ay h;cases e
 | s a n cap ks r ihk ih=>
  intro G fs hs h;obtain ⟨a',cap',js,q,rfl,hj,hq⟩:=Fo.aI hs
  cases fs with
  | nil=>exact absurd (ai h) (by simp)
  | cons f fs=>
   cases f with
   | i=>obtain ⟨y,r',e,-⟩:=eu h;cases e
   | b=>obtain ⟨y,r',e,-⟩:=dE h;cases e
   | u=>obtain ⟨y,r',e,-⟩:=jy h;cases e
   | t=>obtain ⟨y,r',e,-⟩:=aU h;cases e
   | s k=>obtain ⟨a1,n1,Tp,ks1,r',e,hk,hr⟩:=ay h;cases e;exact ⟨ihk hj hk,ih hq hr⟩
def blk:Option Addr->Nat->List Nat
 | some a,_+1=>[a.block]
 | _,_=>[]
theorem aT {a:Addr} {n:Nat} (h:0 < n):blk (some a) n=[a.block]:=by
 cases n with
 | zero=>omega
 | succ n=>rfl
theorem jv (a:Option Addr):blk a 0=[]:=by cases a <;> rfl
def Fo.ah:Fo->List Nat
 | .nil=>[]
 | .v _ r=>r.ah
 | .s a _ _ ks r=>(blk a ks.len++ks.ah)++r.ah
theorem Fo.aQ:∀F G:Fo,(F.app G).ah=F.ah++G.ah
 | .nil,_=>rfl
 | .v _ r,G=>by simp only [Fo.app,Fo.ah,r.aQ]
 | .s _ _ _ _ r,G=>by simp only [Fo.app,Fo.ah,r.aQ,List.append_assoc]
theorem Fo.iD:∀{F:Fo},¬0 < F.len->F=.nil
 | .nil,_=>rfl
 | .v _ _,h=>by simp [Fo.len] at h
 | .s _ _ _ _ _,h=>by simp [Fo.len] at h
theorem Fo.av.own {W:World} {S:Nat->Prop}:∀{F:Fo},F.av W S->F.av W (λc=>c∈F.ah)
 | .nil,_=>trivial
 | .v _ r,h=>Fo.av.own (F:=r) h
 | .s a n cap ks r,⟨⟨h1,h2,h3⟩,h4⟩=>by
  refine ⟨⟨h1,h2,λhl=>?_⟩,(Fo.av.own h4).mono (λc hc=>by simp only [Fo.ah,List.mem_append];exact .inr hc)⟩;obtain ⟨b,o,rfl,-,c,x⟩:=h3 hl;exact ⟨b,o,rfl,by simp [Fo.ah,aT hl],c,(Fo.av.own x).mono (λc hc=>by simp only [Fo.ah,List.mem_append];exact .inl (.inr hc))⟩
theorem Fo.av.bu {W:World} {S:Nat->Prop}:∀{F:Fo},F.av W S->∀c,c∈F.ah->S c
 | .nil,_,c,hc=>by simp [Fo.ah] at hc
 | .v _ r,h,c,hc=>Fo.av.bu (F:=r) h c hc
 | .s a n cap ks r,⟨⟨h1,h2,h3⟩,h4⟩,c,hc=>by
  simp only [Fo.ah,List.mem_append] at hc
  by_cases hl:0 < ks.len
  .obtain ⟨b,o,rfl,s,-,x⟩:=h3 hl
   rcases hc with (hc | hc) | hc
   .rw [aT hl] at hc
    simp at hc;rw [hc];exact s
   .exact Fo.av.bu x c hc
   .exact Fo.av.bu h4 c hc
  .rw [Fo.iD hl] at hc
   simp only [Fo.len,jv,Fo.ah,List.not_mem_nil,false_or] at hc;exact Fo.av.bu h4 c hc
def Live (W:World) (L:List Nat):Prop:=∀c,c∈L->∀j,W.frozen? ⟨c,j,none⟩=false
theorem Live.kept {A B:World} {L:List Nat} {S:Nat->Prop} (h:Live A L) (k:Kept S A B) (hS:∀c,c∈L->S c∧c < A.heap.size):Live B L:=λc hc j=>
 (k.frozen (p:=⟨c,j,none⟩) (hS c hc).2 (hS c hc).1).trans (h c hc j)
theorem Live.below {A B:World} {L:List Nat} {n:Nat} (h:Live A L) (k:Below n A B) (hS:∀c,c∈L->c < n):Live B L:=λc hc j=>
 (k.frozen (p:=⟨c,j,none⟩) (hS c hc)).trans (h c hc j)
theorem Live.sub {A:World} {L M:List Nat} (h:Live A L) (hs:∀c,c∈M->c∈L):Live A M:=λc hc j=>h c (hs c hc) j
theorem Live.set {A:World} {L:List Nat} (h:Live A L) (p:Addr) (v:Value):Live (A.setCell p v) L:=λc hc j=>by
 rw [World.frozen?_setCell];exact h c hc j
theorem Live.app {A:World} {L M:List Nat} (h:Live A L) (k:Live A M):Live A (L++M):=λc hc j=>by
 rcases List.mem_append.1 hc with x | x
 .exact h c x j
 .exact k c x j
structure Own (lo:Nat) (W:World) (F:Fo):Prop where
 subs:F.av W (λc=>lo<=c∧c < W.heap.size)
 nodup:F.ah.Nodup
 live:Live W F.ah
theorem Own.v {lo:Nat} {W:World} {F:Fo} (x:Value) (h:Own lo W F):Own lo W (.v x F):=⟨h.subs,h.nodup,h.live⟩
theorem Own.kept {lo:Nat} {A B:World} {S:Nat->Prop} {F:Fo} (h:Own lo A F) (k:Kept S A B) (hS:∀c,lo<=c->c < A.heap.size->S c):Own lo B F:=
 ⟨(h.subs.kept k (λc x=>⟨hS c x.1 x.2,x.2⟩)).mono (λ_ x=>⟨x.1,Nat.lt_of_lt_of_le x.2 k.size⟩),h.nodup,h.live.kept k (λc hc=>have x:=h.subs.bu c hc;⟨hS c x.1 x.2,x.2⟩)⟩
theorem Own.below {lo:Nat} {A B:World} {F:Fo} (h:Own lo A F) (k:Below A.heap.size A B):Own lo B F:=h.kept (kt (S:=λ_=>True) k) (λ_ _ _=>trivial)
theorem Own.mono {lo lo':Nat} {A:World} {F:Fo} (h:Own lo A F) (hl:lo'<=lo):Own lo' A F:=⟨h.subs.mono (λ_ x=>⟨Nat.le_trans hl x.1,x.2⟩),h.nodup,h.live⟩
theorem Own.app {lo:Nat} {A B:World} {F G:Fo} (h:Own lo A F) (k:Below A.heap.size A B) (hlo:lo<=A.heap.size) (g:Own A.heap.size B G):Own lo B (F.app G):=by
 have h':=h.below k;exact zz103
theorem Own.Ke {lo:Nat} {A B:World} {S:Nat->Prop} {F G:Fo} (h:Own lo A F) (k:Kept S A B) (hS:∀c,lo<=c->c < A.heap.size->S c) (hlo:lo<=A.heap.size) (g:Own A.heap.size B G):Own lo B (F.app G):=by
 have h':=h.kept k hS;exact zz103
def dg (k:Nat) (o:ByteArray):ByteArray:=if _h:k=0 then o else dg (k / 10) (⟨#[UInt8.ofNat (48+k % 10)]⟩++o)
termination_by k
decreasing_by omega
def mt (k:Nat):ByteArray:=⟨#[109]⟩++dg k ⟨#[]⟩
def mkV:Value->Nat->Value
 | .int t _,k=>.int t (k:Int)
 | .string _,k=>.string (mt k)
 | .bool _,k=>.bool (decide (k % 3=0))
 | x,_=>x
def Fo.mk:Fo->Nat->Fo
 | .nil,_=>.nil
 | .v x r,k=>.v (mkV x k) (r.mk (k+1))
 | .s a n cap ks r,k=>.s a n cap (ks.mk k) (r.mk (k+ks.ct))
def Fo.jC:Fo->Nat->Fo
 | .nil,_=>.nil
 | .v x r,k=>.v x (r.jC k)
 | .s a n cap ks r,k=>.s a n cap (ks.mk k) (r.jC (k+ks.ct))
theorem Fo.iU:∀(F:Fo) (k:Nat),(F.mk k).len=F.len
 | .nil,_=>rfl
 | .v _ r,k=>by simp only [Fo.mk,Fo.len,r.iU]
 | .s _ _ _ _ r,k=>by simp only [Fo.mk,Fo.len,r.iU]
theorem Fo.sN:∀(F G:Fo) (k:Nat),(F.app G).mk k=(F.mk k).app (G.mk (k+F.ct))
 | .nil,_,_=>rfl
 | .v _ r,G,k=>by
  simp only [Fo.app,Fo.mk,Fo.ct,r.sN];congr 3;omega
 | .s _ _ _ ks r,G,k=>by
  simp only [Fo.app,Fo.mk,Fo.ct,r.sN];congr 3;omega
theorem Fo.vQ:∀(F:Fo) (k:Nat),(F.mk k).ah=F.ah
 | .nil,_=>rfl
 | .v _ r,k=>by simp only [Fo.mk,Fo.ah,r.vQ]
 | .s _ _ _ ks r,k=>by simp only [Fo.mk,Fo.ah,ks.vQ,r.vQ,ks.iU]
theorem Fo.r9:∀(F:Fo) (k:Nat),(F.jC k).ah=F.ah
 | .nil,_=>rfl
 | .v _ r,k=>by simp only [Fo.jC,Fo.ah,r.r9]
 | .s _ _ _ ks r,k=>by simp only [Fo.jC,Fo.ah,ks.vQ,r.r9,ks.iU]
theorem zz203 {P:Prop} (h:P:=by
 have e2:o+i * fs.length+fs.length=o+(i+1)* fs.length:=by rw [Nat.add_mul];omega
 rwa [e2] at this):P:=h
theorem gH {k:IntKind} {a b:Int} (h:a=b):Ending.returned (.int k a)=.returned (.int k b):=by rw [h]
def Hz (left:Int) (n:Nat):Int:=if left < n then -1 else left - n
theorem dL {left:Int} {n:Nat} (h:left < n):Hz left n=-1:=if_pos h
theorem gZ {left:Int} {n:Nat} (h:¬left < n):Hz left n=left - n:=if_neg h
structure Bx (W:World) (b:Nat) (L:List Value):Prop where
 lt:b < W.heap.size
 ae:∀i v,L[i]? =some v->W.cell? ⟨b,i,none⟩=some v
 live:∀j,W.frozen? ⟨b,j,none⟩=false
theorem Bx.new (W:World) (L:List Value) (t:TypeId):Bx (W.alloc (.cells L.toArray t)) W.heap.size L:=
 ⟨by simp,λi v hv=>by
  obtain ⟨hi,e⟩:=List.getElem?_eq_some_iff.1 hv;simp [hi,e],λj=>by simp⟩
theorem Bx.kept {A B:World} {b:Nat} {L:List Value} {S:Nat->Prop} (h:Bx A b L) (k:Kept S A B) (hb:S b):Bx B b L:=
 ⟨Nat.lt_of_lt_of_le h.lt k.size,λi v hv=>(k.cell (p:=⟨b,i,none⟩) h.lt hb).trans (h.ae i v hv),λj=>(k.frozen (p:=⟨b,j,none⟩) h.lt hb).trans (h.live j)⟩
theorem Bx.below {A B:World} {b:Nat} {L:List Value} (h:Bx A b L) (k:Below A.heap.size A B):Bx B b L:=h.kept (kt (S:=λ_=>True) k) trivial
theorem Bx.JI {A B:World} {b n:Nat} {L:List Value} (h:Bx A b L) (k:Below n A B) (hb:b < n):Bx B b L:=h.kept (Kept.of_below (S:=λc=>c=b) k (λc _ e=>by omega)) rfl
def Room (W:World) (g n:Nat):Prop:=∀j,j < n->(∃v,W.cell? ⟨g,j,none⟩=some v)∧W.frozen? ⟨g,j,none⟩=false
theorem Room.below {A B:World} {n g m:Nat} (h:Room A g m) (k:Below n A B) (hg:g < n):Room B g m:=λj hj=>by
 obtain ⟨⟨v,hv⟩,hf⟩:=h j hj;exact ⟨⟨v,(k.cell (p:=⟨g,j,none⟩) hg).trans hv⟩,(k.frozen (p:=⟨g,j,none⟩) hg).trans hf⟩
theorem Room.set {A:World} {g m:Nat} (h:Room A g m) (p:Addr) (v:Value):Room (A.setCell p v) g m:=λj hj=>by
 obtain ⟨⟨u,hu⟩,hf⟩:=h j hj;refine ⟨?_,by rw [World.frozen?_setCell];exact hf⟩
 by_cases e:(⟨g,j,none⟩:Addr)=p
 .subst e
  exact ⟨v,World.cell?_setCell_same' _ _ _ (by rw [hu];rfl)⟩
 .exact ⟨u,by rw [World.cell?_setCell_other _ _ _ _ (λh=>e h.symm)];exact hu⟩
theorem Room.made (w:World) (cur:Array Value) (t:TypeId):Room (w.alloc (.cells cur t)) w.heap.size cur.size:=λj hj=>
 ⟨⟨cur[j],by simp [hj]⟩,by simp⟩
def mR (W:World) (b o:Nat):List Value->World
 | []=>W
 | v ::L=>mR (W.setCell ⟨b,o,none⟩ v) b (o+1) L
theorem lS:∀(L:List Value) (W:World) (b o:Nat),Kept (λc=>c≠b) W (mR W b o L)
 | [],W,_,_=>Kept.refl _ W
 | v ::L,W,b,o=>(Kept.setCell _ W ⟨b,o,none⟩ v (by simp)).trans (lS L _ b (o+1))
theorem Al:∀(L:List Value) (W:World) (b o:Nat),(mR W b o L).heap.size=W.heap.size
 | [],_,_,_=>rfl
 | v ::L,W,b,o=>by rw [mR,Al L];simp [World.setCell]
theorem Am:∀(L:List Value) {W:World} (b o:Nat) {M:List Nat},Live W M->Live (mR W b o L) M
 | [],_,_,_,_,h=>h
 | _ ::L,_,b,o,_,h=>Am L b (o+1) (h.set _ _)
theorem Ao:∀(L:List Value) {W:World} (b o:Nat) {g m:Nat},Room W g m->Room (mR W b o L) g m
 | [],_,_,_,_,_,h=>h
 | _ ::L,_,b,o,_,_,h=>Ao L b (o+1) (h.set _ _)
theorem xw:∀(L:List Value) (W:World) (b o j:Nat),(j < o∨o+L.length<=j)->(mR W b o L).cell? ⟨b,j,none⟩=W.cell? ⟨b,j,none⟩
 | [],_,_,_,_,_=>rfl
 | v ::L,W,b,o,j,h=>by
  simp only [List.length_cons] at h;rw [mR,xw L _ b (o+1) j (by omega),World.cell?_setCell_other _ _ _ _ (λe=>by have:=congrArg Addr.off e;simp at this;omega)]
theorem Fa:∀(L:List Value) (W:World) (b o:Nat),(∀j,j < L.length->∃u,W.cell? ⟨b,o+j,none⟩=some u)->bD (mR W b o L) L b o
 | [],W,b,o,_=>bD.nil _ b o
 | v ::L,W,b,o,h=>by
  obtain ⟨u,hu⟩:=h 0 (by simp);have h0:(mR W b o (v ::L)).cell? ⟨b,o,none⟩=some v:=by
   rw [mR,xw L _ b (o+1) o (.inl (by omega))];exact World.cell?_setCell_same' _ _ _ (by rw [show W.cell? ⟨b,o,none⟩=some u from hu];rfl)
  have h1:=Fa L (W.setCell ⟨b,o,none⟩ v) b (o+1) (λj hj=>by
   obtain ⟨u,hu⟩:=h (j+1) (by simp only [List.length_cons];omega);refine ⟨u,?_⟩;rw [World.cell?_setCell_other _ _ _ _ (λe=>by have:=congrArg Addr.off e;simp at this;omega)];have e:o+1+j=o+(j+1):=by omega
   rw [e];exact hu)
  intro i x hx
  cases i with
  | zero=>simp only [List.getElem?_cons_zero,Option.some.injEq] at hx;subst hx;exact h0
  | succ i=>
   simp only [List.getElem?_cons_succ] at hx
   have:=h1 i x hx
   have e:o+1+i=o+(i+1):=by omega
   rw [e] at this;exact this
structure Rd (E:Nat->List bq) (fs:List bq) (n n0:Nat) (a:Option Addr) (i:Nat) (r:Fo) (wr:World):Prop where
 le:i<=n
 fit:Fit E r (rep fs (n - i))
 at_:0 < r.len->∃b o,a=some ⟨b,o,none⟩∧b < n0∧bD wr r.vals b (o+i * fs.length)∧r.av wr (λc=>c < n0)
theorem Rd.start {E:Nat->List bq} {fs:List bq} {n n0:Nat} {a:Option Addr} {cap:Nat} {F:Fo} {W:World} (hf:Fit E F (rep fs n)) (h:F.Sub W (λc=>c < n0) a n cap):Rd E fs n n0 a 0 F W:=
 ⟨Nat.zero_le _,hf,λhl=>by obtain ⟨b,o,e,s,c,x⟩:=h.2.2 hl;exact ⟨b,o,e,s,by simpa using c,x⟩⟩
theorem Rd.below {E:Nat->List bq} {fs:List bq} {n n0 i m:Nat} {a:Option Addr} {r:Fo} {A B:World} (h:Rd E fs n n0 a i r A) (k:Below m A B) (hm:n0<=m):Rd E fs n n0 a i r B:=
 ⟨h.le,h.fit,λhl=>by obtain ⟨b,o,e,s,c,x⟩:=h.at_ hl;exact ⟨b,o,e,s,c.below k (by omega),x.below k (λc hc=>by omega)⟩⟩
theorem Rd.kept {E:Nat->List bq} {fs:List bq} {n n0 i:Nat} {S:Nat->Prop} {a:Option Addr} {r:Fo} {A B:World} (h:Rd E fs n n0 a i r A) (k:Kept S A B) (hm:n0<=A.heap.size) (hS:∀c,c < n0->S c):Rd E fs n n0 a i r B:=
 ⟨h.le,h.fit,λhl=>by obtain ⟨b,o,e,s,c,x⟩:=h.at_ hl;exact ⟨b,o,e,s,c.kept k (by omega) (hS b s),x.kept k (λc hc=>⟨hS c hc,by omega⟩)⟩⟩
theorem Rd.next {E:Nat->List bq} {fs:List bq} {n n0 i:Nat} {a:Option Addr} {r:Fo} {wr:World} (h:Rd E fs n n0 a i r wr) (hi:i < n) (hw:0 < fs.length):
  ∃(x q:Fo) (b o:Nat),r=x.app q∧Fit E x fs∧a=some ⟨b,o,none⟩∧b < n0∧bD wr x.vals b (o+i * fs.length)∧x.av wr (λc=>c < n0)∧Rd E fs n n0 a (i+1) q wr:=by
 obtain ⟨x,q,rfl,hx,hq,hl⟩:=h.fit.next hi
 obtain ⟨b,o,e,s,c,u⟩:=h.at_ (by rw [Fo.aR];omega);rw [Fo.bX] at c;refine ⟨x,q,b,o,rfl,hx,e,s,c.left,u.left,⟨hi,hq,λ_=>⟨b,o,e,s,?_,u.right⟩⟩⟩
 have:=c.right
 rw [Fo.aB,hl] at this;exact zz203
theorem Rd.done {E:Nat->List bq} {fs:List bq} {n n0 i:Nat} {a:Option Addr} {r:Fo} {wr:World} (h:Rd E fs n n0 a i r wr) (hi:¬i < n):r=.nil∧i=n:=
 ⟨h.fit.done hi,by have:=h.le;omega⟩
structure ru (E:Nat->List bq) (fs:List bq) (n n0:Nat) (a:Option Addr) (i q:Nat) (r:Fo) (wr:World):Prop where
 le:i<=n
 fit:Fit E r (rep fs (n - i))
 at_:0 < r.len->∃b o,a=some ⟨b,o,none⟩∧b < n0∧bD wr (r.mk q).vals b (o+i * fs.length)∧(r.mk q).av wr (λc=>c < n0)
theorem ru.start {E:Nat->List bq} {fs:List bq} {n n0 k:Nat} {a:Option Addr} {cap:Nat} {F:Fo} {W:World} (hf:Fit E F (rep fs n)) (h:(F.mk k).Sub W (λc=>c < n0) a n cap):ru E fs n n0 a 0 k F W:=
 ⟨Nat.zero_le _,hf,λhl=>by obtain ⟨b,o,e,s,c,x⟩:=h.2.2 (by rw [Fo.iU];exact hl);exact ⟨b,o,e,s,by simpa using c,x⟩⟩
theorem ru.below {E:Nat->List bq} {fs:List bq} {n n0 i q m:Nat} {a:Option Addr} {r:Fo} {A B:World} (h:ru E fs n n0 a i q r A) (k:Below m A B) (hm:n0<=m):ru E fs n n0 a i q r B:=
 ⟨h.le,h.fit,λhl=>by obtain ⟨b,o,e,s,c,x⟩:=h.at_ hl;exact ⟨b,o,e,s,c.below k (by omega),x.below k (λc hc=>by omega)⟩⟩
theorem ru.next {E:Nat->List bq} {fs:List bq} {n n0 i q:Nat} {a:Option Addr} {r:Fo} {wr:World} (h:ru E fs n n0 a i q r wr) (hi:i < n) (hw:0 < fs.length):
  ∃(x y:Fo) (b o:Nat),r=x.app y∧Fit E x fs∧a=some ⟨b,o,none⟩∧b < n0∧bD wr (x.mk q).vals b (o+i * fs.length)∧(x.mk q).av wr (λc=>c < n0)∧ru E fs n n0 a (i+1) (q+x.ct) y wr:=by
 obtain ⟨x,y,rfl,hx,hq,hl⟩:=h.fit.next hi
 obtain ⟨b,o,e,s,c,u⟩:=h.at_ (by rw [Fo.aR];omega);rw [Fo.sN] at u;rw [Fo.sN,Fo.bX] at c;refine ⟨x,y,b,o,rfl,hx,e,s,c.left,u.left,⟨hi,hq,λ_=>⟨b,o,e,s,?_,u.right⟩⟩⟩
 have:=c.right
 rw [Fo.aB,Fo.iU,hl] at this;exact zz203
theorem ru.done {E:Nat->List bq} {fs:List bq} {n n0 i q:Nat} {a:Option Addr} {r:Fo} {wr:World} (h:ru E fs n n0 a i q r wr) (hi:¬i < n):r=.nil∧i=n:=
 ⟨h.fit.done hi,by have:=h.le;omega⟩
structure qC (fs:List bq) (n:Nat) (F:Fo) (W:World) (i:Nat) (r Fp Gp:Fo) (wr:World):Prop where
 eq:Fp.app r=F
 len:Fp.len=i * fs.length
 aG:Gp.aG Fp
 nodup:(W.heap.size ::Gp.ah).Nodup
 live:Live wr (W.heap.size ::Gp.ah)
 ae:bD wr Gp.vals W.heap.size 0
 subs:Gp.av wr (λc=>W.heap.size+1<=c∧c < wr.heap.size)
 room:Room wr W.heap.size (n * fs.length)
 rf:Below W.heap.size W wr
 size:W.heap.size+1<=wr.heap.size
theorem qC.start {fs:List bq} {n:Nat} {F:Fo} {W:World} (cur:Array Value) (t:TypeId) (h:cur.size=n * fs.length):qC fs n F W 0 F .nil .nil (W.alloc (.cells cur t)):=
 ⟨rfl,by simp [Fo.len],trivial,by simp [Fo.ah],λc hc j=>by simp only [Fo.ah,List.mem_singleton] at hc;subst hc;simp,bD.nil _ _ _,trivial,by rw [<- h];exact Room.made W cur t,below_alloc1 _ _,by simp⟩
theorem qC.step {fs:List bq} {n i:Nat} {F x q Fp Gp G:Fo} {W wr w1:World} (h:qC fs n F W i (x.app q) Fp Gp wr) (hi:i < n) (hx:x.len=fs.length) (b1:Below wr.heap.size wr w1) (hs:G.aG x) (ho:Own wr.heap.size w1 G):
  qC fs n F W (i+1) q (Fp.app x) (Gp.app G) (mR w1 W.heap.size (i * fs.length) G.vals):=by
 have z1:=b1.size;have zz:=Al G.vals w1 W.heap.size (i * fs.length);have k4:=lS G.vals w1 W.heap.size (i * fs.length);have hsz:=h.size;have hgl:Gp.len=i * fs.length:=by rw [h.aG.len,h.len]
 have VK:G.len=fs.length:=by rw [hs.len,hx]
 have hnm:i * fs.length+fs.length<=n * fs.length:=by
  have:(i+1)* fs.length<=n * fs.length:=Nat.mul_le_mul_right _ hi
  rw [Nat.add_mul] at this;omega
 refine ⟨by rw [Fo.fw];exact h.eq,by rw [Fo.aR,h.len,hx,Nat.add_mul];omega,h.aG.app hs,?_,?_,?_,?_,Ao _ _ _ (h.room.below b1 (by omega)),?_,by omega⟩
 .rw [Fo.aQ,<- List.cons_append,List.nodup_append]
  refine ⟨h.nodup,ho.nodup,λy hy z hz e=>?_⟩;subst e;have h1:=(ho.subs.bu y hz).1;rcases List.mem_cons.1 hy with e | e
  .omega
  .have:=(h.subs.bu y e).2;omega
 .rw [Fo.aQ,<- List.cons_append]
  refine Am _ _ _ (Live.app (h.live.below b1 (λc hc=>?_)) ho.live);rcases List.mem_cons.1 hc with e | e
  .omega
  .exact (h.subs.bu c e).2
 .rw [Fo.bX]
  refine bD.join ?_ ?_
  .refine (h.ae.below b1 (by omega)).keep (λj _ hj v hv=>?_)
   rw [Fo.aB,hgl] at hj;rw [xw _ _ _ _ _ (.inl (by omega))];exact hv
  .rw [Fo.aB,hgl,Nat.zero_add]
   refine Fa _ _ _ _ (λj hj=>?_);rw [Fo.aB,VK] at hj;exact ((h.room.below b1 (by omega)) (i * fs.length+j) (by omega)).1
 .refine Fo.av.app ?_ ?_
  .exact ((h.subs.below b1 (λc hc=>hc.2)).kept k4 (λc hc=>⟨by omega,by omega⟩)).mono (λc hc=>⟨hc.1,by omega⟩)
  .exact (ho.subs.kept k4 (λc hc=>⟨by omega,hc.2⟩)).mono (λc hc=>⟨by omega,by omega⟩)
 .exact (h.rf.trans (b1.mono (by omega))).trans (k4.below (λc hc=>by show c≠_;omega) (by omega))
theorem Fb (b n:Nat) (L:List Nat):(blk (some ⟨b,0,none⟩) n++L).Sublist (b ::L):=by
 cases n with
 | zero=>exact List.sublist_cons_self b L
 | succ n=>exact List.Sublist.refl _
theorem qC.finish {fs:List bq} {n i:Nat} {F Fp Gp:Fo} {W wr:World} (h:qC fs n F W i .nil Fp Gp wr) (hn:n<=1048576):
  Gp.aG F∧Below W.heap.size W wr∧Own W.heap.size wr (.s (some ⟨W.heap.size,0,none⟩) n n Gp .nil):=by
 have e:=h.eq;rw [Fo.jl] at e;subst e;refine ⟨h.aG,h.rf,⟨⟨⟨Nat.le_refl _,by simp only [maxLen];omega,λ_=>⟨_,_,rfl,⟨Nat.le_refl _,by have:=h.size;omega⟩,h.ae,h.subs.mono (λc hc=>⟨by omega,hc.2⟩)⟩⟩,trivial⟩,?_,?_⟩⟩
 .simp only [Fo.ah,List.append_nil];exact h.nodup.sublist (Fb _ _ _)
 .simp only [Fo.ah,List.append_nil];exact h.live.sub (λc hc=>(Fb _ _ _).subset hc)
theorem Bx.put {W:World} {b:Nat} {L:List Value} (h:Bx W b L) (i:Nat) (v:Value) (hi:i < L.length):Bx (W.setCell ⟨b,i,none⟩ v) b (L.set i v):=
 ⟨by simpa [World.setCell] using h.lt,λj u hu=>by
  by_cases e:j=i
  .subst e
   rw [List.getElem?_set_self hi] at hu;simp only [Option.some.injEq] at hu;subst hu;exact World.cell?_setCell_same' _ _ _ (by rw [h.ae j _ (List.getElem?_eq_getElem hi)];rfl)
  .rw [List.getElem?_set_ne (λx=>e x.symm)] at hu
   rw [World.cell?_setCell_other _ _ _ _ (λx=>by have:=congrArg Addr.off x;simp at this;omega)];exact h.ae j u hu,λj=>by rw [World.frozen?_setCell];exact h.live j⟩
structure iI (b o:Nat) (F:Fo) (k0:Nat) (W:World) (Fp r:Fo) (wr:World):Prop where
 eq:Fp.app r=F
 ae:bD wr ((Fp.mk k0).app r).vals b o
 subs:((Fp.mk k0).app r).av wr (λc=>c∈F.ah)
 kept:Kept (λc=>c∉b ::F.ah) W wr
 live:Live wr (b ::F.ah)
 lt:∀c,c∈b ::F.ah->c < W.heap.size
 nodup:(b ::F.ah).Nodup
theorem iI.start {b o k0 n cap:Nat} {F:Fo} {W:World} (hl:0 < F.len) (h:F.Sub W (λc=>c < W.heap.size) (some ⟨b,o,none⟩) n cap) (hnd:(blk (some ⟨b,o,none⟩) F.len++F.ah).Nodup) (hlv:Live W (blk (some ⟨b,o,none⟩) F.len++F.ah)):
  iI b o F k0 W .nil F W:=by
 rw [aT hl] at hnd hlv;obtain ⟨b',o',e,hb,hc,hs⟩:=h.2.2 hl
 cases e
 exact ⟨rfl,hc,hs.own,Kept.refl _ _,hlv,λc hc=>by
  rcases List.mem_cons.1 hc with e | e
  .omega
  .exact hs.bu c e,hnd⟩
theorem iI.below {b o k0:Nat} {F Fp r:Fo} {W wr w1:World} (h:iI b o F k0 W Fp r wr) (k:Below wr.heap.size wr w1):iI b o F k0 W Fp r w1:=by
 have hz:=h.kept.size;have hlt:∀c,c∈b ::F.ah->c < wr.heap.size:=λc hc=>by have:=h.lt c hc;omega
 exact ⟨h.eq,h.ae.below k (hlt b List.mem_cons_self),h.subs.below k (λc hc=>hlt c (List.mem_cons_of_mem _ hc)),h.kept.trans (kt k),h.live.below k hlt,h.lt,h.nodup⟩
theorem iI.cell {b o k0 p:Nat} {F Fp r:Fo} {x:Value} {W wr:World} (h:iI b o F k0 W Fp (.v x r) wr) (hp:o+Fp.len=p):wr.cell? ⟨b,p,none⟩=some x:=by
 have:=h.ae Fp.len x (by rw [Fo.bX,List.getElem?_append_right (by rw [Fo.aB,Fo.iU];omega),Fo.aB,Fo.iU,Nat.sub_self];rfl)
 rwa [hp] at this
theorem iI.at_ {b o k0 p:Nat} {F Fp r:Fo} {W wr:World} (h:iI b o F k0 W Fp r wr) (j:Nat) (x:Value) (hx:r.vals[j]? =some x) (hp:o+Fp.len+j=p):wr.cell? ⟨b,p,none⟩=some x:=by
 have:=h.ae (Fp.len+j) x (by rw [Fo.bX,List.getElem?_append_right (by rw [Fo.aB,Fo.iU];omega),Fo.aB,Fo.iU,Nat.add_sub_cancel_left];exact hx)
 rw [<- Nat.add_assoc] at this
 rwa [hp] at this
theorem iI.free {b o k0:Nat} {F Fp r:Fo} {W wr:World} (h:iI b o F k0 W Fp r wr) (p:Nat):wr.frozen? ⟨b,p,none⟩=false:=h.live b List.mem_cons_self p
theorem iI.set {b o k0 p q:Nat} {F Fp r:Fo} {x y:Value} {W wr:World} (h:iI b o F k0 W Fp (.v x r) wr) (hp:o+Fp.len=p) (hq:k0+Fp.ct=q) (hy:y=mkV x q):
  iI b o F k0 W (Fp.app (.v x .nil)) r (wr.setCell ⟨b,p,none⟩ y):=by
 subst hy;have hz:=h.kept.size;have hc:=h.cell hp;have hbn:b∉F.ah:=(List.nodup_cons.1 h.nodup).1;have e1:(((Fp.app (.v x .nil)).mk k0).app r)=(Fp.mk k0).app (.v (mkV x q) r):=by
  rw [Fo.sN,Fo.fw,hq];rfl
 refine ⟨by rw [Fo.fw];exact h.eq,?_,?_,h.kept.set (by simp),h.live.set _ _,h.lt,h.nodup⟩
 .rw [e1]
  intro i v hv;rw [Fo.bX] at hv
  by_cases hi:i=Fp.len
  .subst hi
   rw [List.getElem?_append_right (by rw [Fo.aB,Fo.iU];omega),Fo.aB,Fo.iU,Nat.sub_self] at hv;simp only [Fo.vals,List.getElem?_cons_zero,Option.some.injEq] at hv;subst hv;rw [hp];exact World.cell?_setCell_same' _ _ _ (by rw [hc];rfl)
  .rw [World.cell?_setCell_other _ _ _ _ (λe=>by have:=congrArg Addr.off e;simp at this;omega)]
   refine h.ae i v ?_;rw [Fo.bX]
   by_cases hl:i < Fp.len
   .rw [List.getElem?_append_left (by rw [Fo.aB,Fo.iU];exact hl)] at hv ⊢
    exact hv
   .rw [List.getElem?_append_right (by rw [Fo.aB,Fo.iU];omega)] at hv ⊢
    rw [Fo.aB,Fo.iU] at hv ⊢;obtain ⟨m,hm⟩:∃m,i - Fp.len=m+1:=⟨i - Fp.len - 1,by omega⟩
    rw [hm] at hv ⊢;exact hv
 .rw [e1]
  have h1:((Fp.mk k0).app (.v (mkV x q) r)).av wr (λc=>c∈F.ah):=Fo.av.app h.subs.left (show r.av wr _ from h.subs.right);exact h1.keep (λ_ y=>y) (λp' hp' v hv=>by
   rw [World.cell?_setCell_other _ _ _ _ (λe=>hbn (by have:=congrArg Addr.block e;simp at this;rw [this];exact hp'))];exact hv)
theorem iI.sub {b o k0 n cap:Nat} {F Fp ks r:Fo} {a:Option Addr} {W wr:World} (h:iI b o F k0 W Fp (.s a n cap ks r) wr):
  Fo.av wr (λc=>c < wr.heap.size) (.s a n cap ks .nil)∧(Fo.ah (.s a n cap ks .nil)).Nodup∧Live wr (Fo.ah (.s a n cap ks .nil)):=by
 have hz:=h.kept.size;have hs:=h.subs.right;have e:=congrArg Fo.ah h.eq;rw [Fo.aQ] at e;simp only [Fo.ah] at e;have hnd:=(List.nodup_cons.1 h.nodup).2;rw [<- e] at hnd;simp only [Fo.ah,List.append_nil];refine ⟨⟨hs.1,trivial⟩ |> Fo.av.mono (F:=.s a n cap ks .nil) (S:=λc=>c∈F.ah) (λc hc=>by have:=h.lt c (List.mem_cons_of_mem _ hc);omega),?_,?_⟩
 .exact (List.nodup_append.1 (List.nodup_append.1 hnd).2.1).1
 .exact h.live.sub (λc hc=>List.mem_cons_of_mem _ (by rw [<- e];exact List.mem_append.2 (.inr (List.mem_append.2 (.inl hc)))))
theorem iI.call {b o k0 n cap q:Nat} {F Fp ks r:Fo} {a:Option Addr} {W wr w1:World} (h:iI b o F k0 W Fp (.s a n cap ks r) wr) (hq:k0+Fp.ct=q)
  (k:Kept (λc=>c∉Fo.ah (.s a n cap ks .nil)) wr w1) (hs:Fo.av w1 (λc=>c < wr.heap.size) (Fo.jC (.s a n cap ks .nil) q)) (hl:Live w1 (Fo.ah (.s a n cap ks .nil))):
  iI b o F k0 W (Fp.app (.s a n cap ks .nil)) r w1:=by
 have hz:=h.kept.size;have e:=congrArg Fo.ah h.eq;rw [Fo.aQ] at e;simp only [Fo.ah] at e;simp only [Fo.ah,List.append_nil] at k hl;have hnd:=h.nodup;have hbn:b∉F.ah:=(List.nodup_cons.1 hnd).1;have Fx:=(List.nodup_cons.1 hnd).2;rw [<- e] at Fx;obtain ⟨hn1,hn2,aD⟩:=List.nodup_append.1 Fx;obtain ⟨aC,Yw,VS⟩:=List.nodup_append.1 hn2;have hsub:∀c,c∈blk a ks.len++ks.ah->c∈F.ah:=λc hc=>by rw [<- e];exact List.mem_append.2 (.inr (List.mem_append.2 (.inl hc)))
 have hlt:∀c,c∈b ::F.ah->c < wr.heap.size:=λc hc=>by have:=h.lt c hc;omega
 have e1:(((Fp.app (.s a n cap ks .nil)).mk k0).app r)=(Fp.mk k0).app (.s a n cap (ks.mk q) r):=by
  rw [Fo.sN,Fo.fw,hq];rfl
 have e2:((Fp.mk k0).app (.s a n cap (ks.mk q) r)).vals=((Fp.mk k0).app (.s a n cap ks r)).vals:=by simp only [Fo.bX,Fo.vals]
 have hb:b∉blk a ks.len++ks.ah:=λhc=>hbn (hsub b hc)
 refine ⟨by rw [Fo.fw];exact h.eq,?_,?_,h.kept.trans (k.mono (λc _ hc hx=>hc (List.mem_cons_of_mem _ (hsub c hx)))),?_,h.lt,h.nodup⟩
 .rw [e1,e2]
  exact h.ae.kept k (hlt b List.mem_cons_self) hb
 .rw [e1]
  refine Fo.av.app ?_ ⟨?_,?_⟩
  .have h1:=h.subs.left.own
   rw [Fo.vQ] at h1;refine (h1.kept k (λc hc=>⟨λhx=>aD c hc c (List.mem_append.2 (.inl hx)) rfl,hlt c (List.mem_cons_of_mem _ (by rw [<- e];exact List.mem_append.2 (.inl hc)))⟩)).mono (λc hc=>by rw [<- e];exact List.mem_append.2 (.inl hc))
  .have h2:=hs.own
   rw [Fo.r9] at h2;simp only [Fo.jC,Fo.ah,List.append_nil] at h2;exact (h2.mono (T:=λc=>c∈F.ah) hsub).1
  .have h3:r.av wr (λc=>c∈F.ah):=h.subs.right.2
   refine (h3.own.kept k (λc hc=>⟨λhx=>VS c hx c hc rfl,hlt c (List.mem_cons_of_mem _ (by rw [<- e];exact List.mem_append.2 (.inr (List.mem_append.2 (.inr hc)))))⟩)).mono (λc hc=>by rw [<- e];exact List.mem_append.2 (.inr (List.mem_append.2 (.inr hc))))
 .intro c hc j
  by_cases hx:c∈blk a ks.len++ks.ah
  .exact hl c hx j
  .exact (k.frozen (p:=⟨c,j,none⟩) (hlt c hc) hx).trans (h.live c hc j)
theorem iI.finish {b o k0 n cap:Nat} {F Fp:Fo} {W wr:World} (h:iI b o F k0 W Fp .nil wr) (hn:n<=cap) (hc:cap<=maxLen) (hl:0 < F.len):
  Fp=F∧Fo.av wr (λc=>c < W.heap.size) (Fo.jC (.s (some ⟨b,o,none⟩) n cap F .nil) k0)∧Kept (λc=>c∉Fo.ah (.s (some ⟨b,o,none⟩) n cap F .nil)) W wr∧Live wr (Fo.ah (.s (some ⟨b,o,none⟩) n cap F .nil)):=by
 have e:=h.eq;rw [Fo.jl] at e;subst e;have hce:=h.ae;have hsu:=h.subs;rw [Fo.jl] at hce hsu;simp only [Fo.ah,aT hl,List.append_nil,List.singleton_append];exact ⟨trivial,⟨⟨hn,hc,λ_=>⟨b,o,rfl,h.lt b List.mem_cons_self,hce,hsu.mono (λc hc=>h.lt c (List.mem_cons_of_mem _ hc))⟩⟩,trivial⟩,h.kept,h.live⟩
def Ay (P:Program) (E:Nat->List bq) (f:FuncId) (fs:List bq) (m:Nat):Prop:=∀(F:Fo) (n0:Nat) (left:Int) (W:World),F.size<=m->Fit E F fs->n0<=W.heap.size->0<=left->left<=1048576->F.av W (λc=>c < n0)->
 Calls P f #[.agg F.vals.toArray,.int .i64 left] W λe W'=>e=.returned (.int .i64 (Hz left F.wt))∧Below W.heap.size W W'
def Fy (P:Program) (E:Nat->List bq) (f:FuncId) (fs:List bq) (m:Nat):Prop:=∀(F:Fo) (n n0:Nat) (left:Int) (W:World) (a:Option Addr) (cap:Nat),F.size<=m->Fit E F (rep fs n)->n0<=W.heap.size->0<=left->left<=1048576->F.Sub W (λc=>c < n0) a n cap->
 Calls P f #[.slice a n cap,.int .i64 left] W λe W'=>e=.returned (.int .i64 (Hz left (n+F.wt)))∧Below W.heap.size W W'
def yg (P:Program) (E:Nat->List bq) (f:FuncId) (fs:List bq) (m:Nat):Prop:=∀(F:Fo) (n0:Nat) (W:World),F.size<=m->Fit E F fs->n0<=W.heap.size->F.wt<=1048576->F.av W (λc=>c < n0)->
 Calls P f #[.agg F.vals.toArray] W λe W'=>∃G:Fo,e=.returned (.agg G.vals.toArray)∧G.aG F∧Below W.heap.size W W'∧Own W.heap.size W' G
def Fw (P:Program) (E:Nat->List bq) (f:FuncId) (fs:List bq) (m:Nat):Prop:=∀(F:Fo) (n n0:Nat) (W:World) (a:Option Addr) (cap:Nat),F.size<=m->Fit E F (rep fs n)->n0<=W.heap.size->n+F.wt<=1048576->F.Sub W (λc=>c < n0) a n cap->
 Calls P f #[.slice a n cap] W λe W'=>∃(b:Nat) (G:Fo),e=.returned (.slice (some ⟨b,0,none⟩) n n)∧G.aG F∧Below W.heap.size W W'∧Own W.heap.size W' (.s (some ⟨b,0,none⟩) n n G .nil)
def yH (P:Program) (E:Nat->List bq) (f:FuncId) (fs:List bq) (m:Nat):Prop:=∀(F G:Fo) (n0:Nat) (W:World),F.size<=m->Fit E F fs->n0<=W.heap.size->G.aG F->F.av W (λc=>c < n0)->G.av W (λc=>c < n0)->
 Calls P f #[.agg F.vals.toArray,.agg G.vals.toArray] W λe W'=>e=.returned (.bool true)∧Below W.heap.size W W'
def En (P:Program) (E:Nat->List bq) (f:FuncId) (fs:List bq) (m:Nat):Prop:=∀(F G:Fo) (n n0:Nat) (W:World) (a b:Option Addr) (cap KE:Nat),F.size<=m->Fit E F (rep fs n)->n0<=W.heap.size->G.aG F->F.Sub W (λc=>c < n0) a n cap->G.Sub W (λc=>c < n0) b n KE->
 Calls P f #[.slice a n cap,.slice b n KE] W λe W'=>e=.returned (.bool true)∧Below W.heap.size W W'
def Xq (P:Program) (E:Nat->List bq) (f:FuncId) (fs:List bq) (m:Nat):Prop:=∀(F:Fo) (k:Nat) (W:World),F.size < m->Fit E F fs->0 < k->k+F.bZ<=4294967296->F.av W (λc=>c < W.heap.size)->F.ah.Nodup->Live W F.ah->
 Calls P f #[.agg F.vals.toArray,.int .i64 k] W λe W'=>e=.returned (.int .i64 ((k+F.bZ:Nat):Int))∧(F.jC k).av W' (λc=>c < W.heap.size)∧Kept (λc=>c∉F.ah) W W'∧Live W' F.ah
def xQ (P:Program) (E:Nat->List bq) (f:FuncId) (fs:List bq) (m:Nat):Prop:=∀(F:Fo) (n:Nat) (a:Option Addr) (cap k:Nat) (W:World),F.size < m->Fit E F (rep fs n)->0 < k->k+F.ct<=4294967296->Fo.av W (λc=>c < W.heap.size) (.s a n cap F .nil)->(Fo.ah (.s a n cap F .nil)).Nodup->Live W (Fo.ah (.s a n cap F .nil))->
 Calls P f #[.slice a n cap,.int .i64 k] W λe W'=>e=.returned (.int .i64 ((k+F.ct:Nat):Int))∧Fo.av W' (λc=>c < W.heap.size) (Fo.jC (.s a n cap F .nil) k)∧Kept (λc=>c∉Fo.ah (.s a n cap F .nil)) W W'∧Live W' (Fo.ah (.s a n cap F .nil))
def Xr (P:Program) (E:Nat->List bq) (f:FuncId) (fs:List bq) (m:Nat):Prop:=∀(F:Fo) (n0 k:Nat) (W:World),F.size < m->Fit E F fs->n0<=W.heap.size->0 < k->k+F.bZ<=4294967296->(F.jC k).av W (λc=>c < n0)->
 Calls P f #[.agg F.vals.toArray,.int .i64 k] W λe W'=>e=.returned (.int .i64 ((k+F.bZ:Nat):Int))∧Below W.heap.size W W'
def xX (P:Program) (E:Nat->List bq) (f:FuncId) (fs:List bq) (m:Nat):Prop:=∀(F:Fo) (n n0:Nat) (a:Option Addr) (cap k:Nat) (W:World),F.size < m->Fit E F (rep fs n)->n0<=W.heap.size->0 < k->k+F.ct<=4294967296->(F.mk k).Sub W (λc=>c < n0) a n cap->
 Calls P f #[.slice a n cap,.int .i64 k] W λe W'=>e=.returned (.int .i64 ((k+F.ct:Nat):Int))∧Below W.heap.size W W'
theorem Fo.A8:∀(F G:Fo) (k:Nat),(F.app G).jC k=(F.jC k).app (G.jC (k+F.bZ))
 | .nil,_,_=>rfl
 | .v _ r,G,k=>by simp only [Fo.app,Fo.jC,Fo.bZ,r.A8]
 | .s _ _ _ ks r,G,k=>by
  simp only [Fo.app,Fo.jC,Fo.bZ,r.A8];congr 3;omega
theorem Fo.gF:∀F G:Fo,(F.app G).bZ=F.bZ+G.bZ
 | .nil,_=>by simp [Fo.app,Fo.bZ]
 | .v _ r,G=>by simp only [Fo.app,Fo.bZ,r.gF G]
 | .s _ _ _ _ r,G=>by simp only [Fo.app,Fo.bZ,r.gF G];omega
structure ji (F:Fo) (k0:Nat) (W:World) (Fp r:Fo) (wr:World):Prop where
 eq:Fp.app r=F
 subs:((Fp.jC k0).app r).av wr (λc=>c∈F.ah)
 kept:Kept (λc=>c∉F.ah) W wr
 live:Live wr F.ah
 lt:∀c,c∈F.ah->c < W.heap.size
 nodup:F.ah.Nodup
theorem ji.start {F:Fo} {k0:Nat} {W:World} (h:F.av W (λc=>c < W.heap.size)) (hnd:F.ah.Nodup) (hl:Live W F.ah):ji F k0 W .nil F W:=
 ⟨rfl,h.own,Kept.refl _ _,hl,h.bu,hnd⟩
theorem ji.below {F Fp r:Fo} {k0:Nat} {W wr w1:World} (h:ji F k0 W Fp r wr) (k:Below wr.heap.size wr w1):ji F k0 W Fp r w1:=by
 have hz:=h.kept.size;have hlt:∀c,c∈F.ah->c < wr.heap.size:=λc hc=>by have:=h.lt c hc;omega
 exact ⟨h.eq,h.subs.below k hlt,h.kept.trans (kt k),h.live.below k hlt,h.lt,h.nodup⟩
theorem ji.sub {F Fp X r:Fo} {k0:Nat} {W wr:World} (h:ji F k0 W Fp (X.app r) wr):X.av wr (λc=>c < wr.heap.size)∧X.ah.Nodup∧Live wr X.ah:=by
 have hz:=h.kept.size;have e:=congrArg Fo.ah h.eq;rw [Fo.aQ,Fo.aQ] at e;have hnd:=h.nodup;rw [<- e] at hnd;refine ⟨(h.subs.right.left).mono (λc hc=>by have:=h.lt c hc;omega),(List.nodup_append.1 (List.nodup_append.1 hnd).2.1).1,h.live.sub (λc hc=>by rw [<- e];exact List.mem_append.2 (.inr (List.mem_append.2 (.inl hc))))⟩
theorem ji.call {F Fp X r:Fo} {k0 q:Nat} {W wr w1:World} (h:ji F k0 W Fp (X.app r) wr) (hq:k0+Fp.bZ=q) (k:Kept (λc=>c∉X.ah) wr w1) (hs:(X.jC q).av w1 (λc=>c < wr.heap.size)) (hl:Live w1 X.ah):
  ji F k0 W (Fp.app X) r w1:=by
 have hz:=h.kept.size;have e:=congrArg Fo.ah h.eq;rw [Fo.aQ,Fo.aQ] at e;have hnd:=h.nodup;rw [<- e] at hnd;obtain ⟨hn1,hn2,aD⟩:=List.nodup_append.1 hnd;obtain ⟨aC,Yw,VS⟩:=List.nodup_append.1 hn2;have hsub:∀c,c∈X.ah->c∈F.ah:=λc hc=>by rw [<- e];exact List.mem_append.2 (.inr (List.mem_append.2 (.inl hc)))
 have hlt:∀c,c∈F.ah->c < wr.heap.size:=λc hc=>by have:=h.lt c hc;omega
 refine ⟨by rw [Fo.fw];exact h.eq,?_,h.kept.trans (k.mono (λc _ hc hx=>hc (hsub c hx))),?_,h.lt,h.nodup⟩
 .rw [Fo.A8,Fo.fw,hq]
  refine Fo.av.app ?_ (Fo.av.app ?_ ?_)
  .have h1:=h.subs.left.own
   rw [Fo.r9] at h1;exact (h1.kept k (λc hc=>⟨λhx=>aD c hc c (List.mem_append.2 (.inl hx)) rfl,hlt c (by rw [<- e];exact List.mem_append.2 (.inl hc))⟩)).mono (λc hc=>by rw [<- e];exact List.mem_append.2 (.inl hc))
  .have h2:=hs.own
   rw [Fo.r9] at h2;exact h2.mono hsub
  .have h3:=h.subs.right.right
   exact (h3.own.kept k (λc hc=>⟨λhx=>VS c hx c hc rfl,hlt c (by rw [<- e];exact List.mem_append.2 (.inr (List.mem_append.2 (.inr hc))))⟩)).mono (λc hc=>by rw [<- e];exact List.mem_append.2 (.inr (List.mem_append.2 (.inr hc))))
 .intro c hc j
  by_cases hx:c∈X.ah
  .exact hl c hx j
  .exact (k.frozen (p:=⟨c,j,none⟩) (hlt c hc) hx).trans (h.live c hc j)
theorem ji.away {F Fp X r:Fo} {k0 b:Nat} {W wr:World} (h:ji F k0 W Fp (X.app r) wr) (hb:W.heap.size<=b):b∉X.ah:=λhx=>by
 have e:=congrArg Fo.ah h.eq;rw [Fo.aQ,Fo.aQ] at e
 have:=h.lt b (by rw [<- e];exact List.mem_append.2 (.inr (List.mem_append.2 (.inl hx))))
 omega
theorem ji.skip {F Fp r:Fo} {k0:Nat} {x:Value} {W wr:World} (h:ji F k0 W Fp (.v x r) wr):ji F k0 W (Fp.app (.v x .nil)) r wr:=by
 refine ji.call (X:=.v x .nil) (q:=k0+Fp.bZ) h rfl (Kept.refl _ _) trivial (λc hc=>by simp [Fo.ah] at hc)
theorem ji.finish {F Fp:Fo} {k0:Nat} {W wr:World} (h:ji F k0 W Fp .nil wr):(F.jC k0).av wr (λc=>c < W.heap.size)∧Kept (λc=>c∉F.ah) W wr∧Live wr F.ah:=by
 have e:=h.eq;rw [Fo.jl] at e;subst e;have hs:=h.subs;rw [Fo.jl] at hs;exact ⟨hs.mono (λc hc=>h.lt c hc),h.kept,h.live⟩
theorem zz57 {P:Prop} (h:P:=by
 have h1:=hide (hI.out.finish (by omega));clear hR hI;go_wp2_with fail;go_ret;exact ⟨W.heap.size,Gp,rfl,h1.out.1,h1.out.2.1,h1.out.2.2⟩):P:=h
def E:Nat->List bq
 | 0=>[.u]
 | 1=>[.t]
 | 2=>[.t,.s 1,.i,.t,.b,.s 0,.s 1,.s 3,.s 2]
 | 3=>[.i,.t,.b,.s 0,.s 1,.s 3,.s 2]
 | _=>[]
theorem Fo.fJ:∀F:Fo,F.len<=F.size
 | .nil=>Nat.le_refl _
 | .v _ r=>by have:=r.fJ;simp only [Fo.size,Fo.len];omega
 | .s _ _ _ _ r=>by have:=r.fJ;simp only [Fo.size,Fo.len];omega
theorem zz20 {P:Prop} (h:P:=by
 go_wp2_with fail;go_ret;exact ⟨rfl,rfl⟩):P:=h
theorem zz22 {P:Prop} (h:P:=by
 obtain ⟨x,q,rfl,hx,hq,hl⟩:=Fit.split (fs:=E 2) (gs:=rep (E 2) n) h;rw [Fo.bX] at hc;have hc1:=hc.left;have hc2:=hc.right;rw [Fo.aB,hl] at hc2;have hs1:=hs.left;have hs2:=hs.right;obtain ⟨g1,g2,g3⟩:=ve hb n (o+9) q hq hc2 hs2;obtain ⟨au,ca,cn,cc,ck,y,rfl,-,h1,hy⟩:=aK hx;have hy':=hy;have hcy:bD W y.vals b (o+2):=λi v hv=>by
  have:=hc1 (i+2) v (by simpa [Fo.vals] using hv)
  have e:o+(i+2)=o+2+i:=by omega
  rwa [e] at this
 have hsy:=hs1.2;obtain ⟨k,nm,mn,la,ln,lc,lk,na,nn,nc,nk,ka,kn,kc,kk,aa,an,ac,ak,rfl,-⟩:=ag hy;simp only [Fo.app];refine ⟨by simp only [aJ,List.length_cons,g1],λi d hd=>?_,λd hd=>?_⟩
 .simp only [aJ] at hd
  exact zz154
 .simp only [aJ,List.mem_cons] at hd
  rcases hd with rfl | hd
  .exact ⟨hy',hcy,hsy,hb⟩
  .exact g3 d hd):P:=h
theorem zz29 {P:Prop} (h:P:=by
 obtain ⟨x,q,rfl,hx,hq,hl⟩:=Fit.split (fs:=E 3) (gs:=rep (E 3) n) h;rw [Fo.bX] at hc;have hc1:=hc.left;have hc2:=hc.right;rw [Fo.aB,hl] at hc2;have hs1:=hs.left;have hs2:=hs.right;obtain ⟨g1,g2,g3⟩:=uZ hb n (o+7) q hq hc2 hs2;have hx':=hx;obtain ⟨k,nm,mn,la,ln,lc,lk,na,nn,nc,nk,ka,kn,kc,kk,aa,an,ac,ak,rfl,-⟩:=ag hx;simp only [Fo.app];refine ⟨by simp only [aS,List.length_cons,g1],λi d hd=>?_,λd hd=>?_⟩
 .simp only [aS] at hd
  exact zz154
 .simp only [aS,List.mem_cons] at hd
  rcases hd with rfl | hd
  .exact ⟨hx',hc1,hs1,hb⟩
  .exact g3 d hd):P:=h
theorem zz48 {P:Prop} (h:P:=by
 replace hx:Fit E x [.i,.t,.b,.s 0,.s 1,.s 3,.s 2]:=hx;obtain ⟨k,F0,rfl,hk,hx⟩:=eu hx;obtain ⟨nm,F1,rfl,hn,hx⟩:=aU hx;obtain ⟨mn,F2,rfl,hx⟩:=dE hx;obtain ⟨la,ln,lc,lk,F3,rfl,h3,hx⟩:=ay hx;obtain ⟨na,nn,nc,nk,F4,rfl,h4,hx⟩:=ay hx;obtain ⟨ka,kn,kc,kk,F5,rfl,h5,hx⟩:=ay hx;obtain ⟨aa,an,ac,ak,F6,rfl,h6,hx⟩:=ay hx;obtain rfl:=ai hx;exact ⟨k,nm,mn,la,ln,lc,lk,na,nn,nc,nk,ka,kn,kc,kk,aa,an,ac,ak,rfl,hk,hn,h3,h4,h5,h6⟩):P:=h
theorem zz64 {P:Prop} (h:P:=by
 rcases hown.2 with ⟨rfl,h0⟩ | ⟨g,cap,cur,rfl,_,_,hnc,_⟩
 .cases a2 <;> simp [Builtin.append_,run_underlying ht,sizeOf,typeInfo,hi,Builtin.lenOf,Builtin.firstCells,loadCells,loadCellsFrom]
 .cases a2 <;> simp [Builtin.append_,run_underlying ht,sizeOf,typeInfo,hi,Builtin.lenOf,Builtin.firstCells,hnc,storeCells,loadCells,loadCellsFrom]):P:=h
theorem zz77 {P:Prop} (h:P:=by
 simp only [List.getElem?_cons_succ] at hd;obtain ⟨e1,e2⟩:=g2 i d hd;exact ⟨e1,by rw [e2];omega⟩):P:=h
theorem zz86 {P:Prop} (h:P:=by
 rcases h.2 with ⟨h1,h2⟩ | ⟨b,cap',cur,hv',hb,hg,hnc,hcm,hcs,ht⟩
 .cases h1
 .cases hv'
  have hj:(cur.toList.take (n * sz))[j]? =some v:=by rw [ht];exact hv
  rw [List.getElem?_take] at hj
  split at hj
  .simp only [World.cell?,hg]
   simpa using hj
  .cases hj):P:=h
theorem zz137 {P:Prop} (h:P:=by
 replace hx:Fit E x (.t ::.s 1 ::E 3):=hx;obtain ⟨au,F0,rfl,hk,hx⟩:=aU hx;obtain ⟨ca,cn,cc,ck,F1,rfl,h1,hx⟩:=ay hx;exact ⟨au,ca,cn,cc,ck,F1,rfl,hk,h1,hx⟩):P:=h
theorem zz141 {P:Prop} (h:P:=by
 rcases h.2 with ⟨h1,h2⟩ | ⟨b,cap',cur,hv',hb,hg,hnc,hcm,hcs,ht⟩
 .cases h1
 .cases hv'
  exact ⟨hb,(Array.getElem?_eq_some_iff.1 hg).1,hnc,hcm⟩):P:=h
theorem zz154 {P:Prop} (h:P:=by
 cases i with
 | zero=>
  simp only [List.getElem?_cons_zero,Option.some.injEq] at hd;subst hd;exact ⟨rfl,by simp⟩
 | succ i=>
  exact zz77):P:=h
theorem zz181 {P:Prop} (h:P:=by
 rcases h.2 with ⟨h1,h2⟩ | ⟨b,cap',cur,hv',hb,hg,hnc,hcm,hcs,ht⟩
 .cases h1
 .cases hv'
  simp [World.frozen?,hg]):P:=h
theorem zz226 {P:Prop} (h:P:=by
 rw [ai h];exact ⟨rfl,λi d hd=>by simp [aS] at hd,λd hd=>by simp [aS] at hd⟩):P:=h
theorem zz227 {P:Prop} (h:P:=by
 rw [ai h];exact ⟨rfl,λi d hd=>by simp [aJ] at hd,λd hd=>by simp [aJ] at hd⟩):P:=h
theorem zz234 {P:Prop} (h:P:=by
 obtain ⟨D,⟨es,c,h1,h2⟩,h3⟩:=h;exact ⟨D,⟨es,c,hb.trans h1,h2⟩,h3⟩):P:=h
theorem bH (W:World) (o:Obj):(W.alloc o).heap[W.heap.size]? =some o:=(MapKept.heap_alloc W o).1
theorem E9 {a b:ByteArray} (h:a≠b):(a.toList==b.toList)=false:=by
 rw [beq_eq_false_iff_ne];intro e;rw [ByteArray.toList_eq,ByteArray.toList_eq] at e;exact h (ByteArray.ext (Array.ext' e))
theorem Kept.grown {S:Nat->Prop} {A B:World} {row:Option Nat} (hg:A.grownBy B row) (h:∀k,row=some k->¬S k):Kept S A B:=
 ⟨hg.os,hg.tape,hg.output,hg.size,λk hk hs=>hg.block k hk (λe=>h k e.symm hs)⟩
theorem Fit.one {E:Nat->List bq}:∀{F:Fo} {fs:List bq},Fit E F fs->∀u∈F.vals,u.oneCell'=true:=by
 intro F fs
 induction fs generalizing F with
 | nil=>intro h;rw [ai h];intro u hu;simp [Fo.vals] at hu
 | cons f fs ih=>
  intro h u hu
  cases f with
  | i=>obtain ⟨x,r,rfl,-,hr⟩:=eu h;rcases List.mem_cons.1 hu with rfl | hu;rfl;exact ih hr u hu
  | b=>obtain ⟨x,r,rfl,hr⟩:=dE h;rcases List.mem_cons.1 hu with rfl | hu;rfl;exact ih hr u hu
  | u=>obtain ⟨x,r,rfl,-,hr⟩:=jy h;rcases List.mem_cons.1 hu with rfl | hu;rfl;exact ih hr u hu
  | t=>obtain ⟨x,r,rfl,-,hr⟩:=aU h;rcases List.mem_cons.1 hu with rfl | hu;rfl;exact ih hr u hu
  | s k=>obtain ⟨a,n,cap,ks,r,rfl,-,hr⟩:=ay h;rcases List.mem_cons.1 hu with rfl | hu;rfl;exact ih hr u hu
theorem IE {W:World} {B:Nat} {e:TypeId} {size n:Nat} {v:Value} {F:Fo} (h:W.ownsRow B e size v n F.vals) (hs:∀g,v.ownBlock=some g->F.av W (λc=>B<=c∧c < W.heap.size)) (hnd:∀g,v.ownBlock=some g->(g ::F.ah).Nodup∧Live W F.ah):
  ∃a cap,v=.slice a n cap∧Own B W (.s a n cap F .nil):=by
 have hl:=h.1;rcases h.2 with ⟨rfl,rfl⟩ | ⟨g,cap,cur,rfl,hb,hg,hnc,hcm,hcs,ht⟩
 .rw [Fo.aB,Nat.zero_mul] at hl
  have e:=Fo.iD (F:=F) (by omega);subst e;exact ⟨none,0,rfl,⟨⟨⟨Nat.le_refl _,Nat.zero_le _,λhl=>by simp [Fo.len] at hl⟩,trivial⟩,by simp [Fo.ah,blk],λc hc=>by simp [Fo.ah,blk] at hc⟩⟩
 .have hlt:=(Array.getElem?_eq_some_iff.1 hg).1
  obtain ⟨h1,h2⟩:=hnd g rfl;refine ⟨_,cap,rfl,⟨⟨⟨hnc,hcm,λ_=>⟨g,0,rfl,⟨hb,hlt⟩,λi u hu=>?_,hs g rfl⟩⟩,trivial⟩,?_,?_⟩⟩
  .have:=h.cells (g:=g) rfl i u hu
   rwa [addr_add] at this
  .simp only [Fo.ah,List.append_nil]
   cases hL:F.len with
   | zero=>rw [jv];exact (List.nodup_cons.1 h1).2
   | succ m=>exact h1
  .simp only [Fo.ah,List.append_nil]
   intro c hc j;rcases List.mem_append.1 hc with hc | hc
   .have:c=g:=by
     cases hL:F.len with
     | zero=>rw [hL,jv] at hc;simp at hc
     | succ m=>rw [hL] at hc;simpa [blk] using hc
    subst this;exact h.frozenAt j
   .exact h2 c hc j
theorem aj {W V:World} {B:Nat} {e:TypeId} {size n:Nat} {v:Value} {xs:List Value} {S:Nat->Prop} (h:W.ownsRow B e size v n xs) (k:Kept S W V) (hS:∀c,v.ownBlock=some c->S c):V.ownsRow B e size v n xs:=by
 refine ⟨h.1,?_⟩;rcases h.2 with h2 | ⟨b,cap,cur,rfl,hb,hg,rest⟩
 .exact .inl h2
 .refine .inr ⟨b,cap,cur,rfl,hb,?_,rest⟩
  have hlt:b < W.heap.size:=(Array.getElem?_eq_some_iff.1 hg).1;rw [k.block b hlt (hS b rfl)];exact hg
theorem xu {P:Program} {W:World} {t e ty:TypeId} {i:TypeInfo} {B size n:Nat} {v:Value} {xs:List Value} (ht:P.underlying t=some (.slice e)) (hi:P.info? e=some i) (hown:W.ownsRow B e size v n xs) (a2:Option Addr) (c2:Nat):
  (Builtin.append_ #[t,t] ty #[v,.slice a2 0 c2]).run P W=.ok v W:=by
 exact zz64
theorem vJ {P:Program} {ops:Array Oper} {rest:List Oper} {o:Oper} {a:Act} {Q:Exit->Act->World->Prop} (hgd:o.guard=none) (s x:Operand) (t e:TypeId)
  (ho:o.op=.call {callee:=.builtin .append,args:=#[s,x],argTypes:=#[t,t]}) {z:Value} {size bytes:Nat} (hinfo:(P.info? e).map (λi=>(i.zero,i.size,i.bytes))=some (some z,size,bytes)) (ht:P.underlying t=some (.slice e)) (hzs:z.cells.size=size) (hsz:0 < size)
  (B:Nat) (W:World) (v:Value) (n:Nat) (xs ys:List Value) (a2:Option Addr) (m c2:Nat) (hs:a.eval s=v) (hx:a.eval x=.slice a2 m c2) (hB:B<=W.heap.size) (hown:W.ownsRow B e size v n xs)
  (hk:0 < m->∃b o,a2=some ⟨b,o,none⟩∧bD W ys b o) (hl:ys.length=m * size) (h1:∀u∈ys,u.oneCell'=true) (h63:n+m<=maxLen) (hbytes:(n+m)* bytes<=140737488355328)
  (h:∀v' W',W'.ownsRow B e size v' (n+m) (xs++ys)->W.grownBy W' v.ownBlock->wpList P ops Q rest (a.put o.dst v') W'):wpList P ops Q (o ::rest) a W:=by
 obtain ⟨i0,hi,hz0,hz1,hz2⟩:=info_parts hinfo
 by_cases h0:0 < m
 .obtain ⟨b,oo,rfl,hc⟩:=hk h0
  refine wpList_append_own_at W hgd s x t ho B e i0 z size bytes ht hi hz0 hz1 hz2 hzs hsz v n xs hs hown ⟨b,oo,none⟩ m c2 ys hx hl (λj u hu=>by rw [addr_add];exact hc j u hu) h1 h63 hbytes hB (λv' W' h2 h3 _ _=>h v' W' h2 h3)
 .have e0:m=0:=by omega
  subst e0;have e1:ys=[]:=List.length_eq_zero_iff.1 (by omega);subst e1;refine wpList_plain hgd λK1 hK=>?_
  have hr:=xu (ty:=o.type) ht hi hown a2 c2;unfold Oper.wp execOp;simp only [ho,resolve,invoke,builtin,Sem.run_bind,Sem.run_pure,Result.andThen_ok,List.map_toArray,List.map_cons,List.map_nil,hs,hx,hr];exact hK _ _ (h v W (by rw [List.append_nil];exact hown) ⟨rfl,rfl,rfl,Nat.le_refl _,λ_ _ _=>rfl⟩)
theorem mG {P:Program} {ops:Array Oper} {o:Oper} {a:Act} {K:Act->World->Prop} {Q:Exit->Act->World->Prop} {E:Prop} (hgd:o.guard=none) (s x:Operand) (t e:TypeId)
  (ho:o.op=.call {callee:=.builtin .append,args:=#[s,x],argTypes:=#[t,t]}) {z:Value} {size bytes:Nat} (hinfo:(P.info? e).map (λi=>(i.zero,i.size,i.bytes))=some (some z,size,bytes)) (ht:P.underlying t=some (.slice e)) (hzs:z.cells.size=size) (hsz:0 < size)
  (B:Nat) (w:World) (v:Value) (n:Nat) (xs ys:List Value) (bb c:Nat) (hs:a.eval s=v) (hown:w.ownsRow B e size v n xs) (hx:a.eval x=.slice (some ⟨bb,0,none⟩) 1 c) (hb:w.heap[bb]? =some (.cells ys.toArray e)) (hB:B<=w.heap.size) (hl:ys.length=size) (h1:∀u∈ys,u.oneCell'=true) (h63:n+1<=maxLen) (hbytes:(n+1)* bytes<=140737488355328)
  (h:∀g cap w',w'.ownsRow B e size (.slice (some ⟨g,0,none⟩) (n+1) cap) (n+1) (xs++ys)->w.grownBy w' v.ownBlock->(v.ownBlock=some g∨g=w.heap.size)->K (a.put o.dst (.slice (some ⟨g,0,none⟩) (n+1) cap)) w'):
  if Region.wanted o (yielded ops a.tmps)=true then Oper.wp P o a w K Q else E:=by
 obtain ⟨i0,hi,hz0,hz1,hz2⟩:=info_parts hinfo;refine step_append_lies w hgd s x t ho B e i0 z size bytes ht hi hz0 hz1 hz2 hzs hsz v n xs hs hown ⟨bb,0,none⟩ 1 c ys hx (by omega) (λj u hu=>?_) h1 (by omega) h63 hbytes hB w.heap.size rfl (λg cap w' h1 h2 h3 _=>h g cap w' h1 h2 h3)
 have:=World.news_of_block hb j u (by simpa using hu)
 exact this
theorem aX {P:Program} {ops:Array Oper} {o:Oper} {a:Act} {w:World} {K:Act->World->Prop} {Q:Exit->Act->World->Prop} {E:Prop} (hgd:o.guard=none) (f:FuncId) (args:Array Value) (hrun:(execOp a.eval o).run P w=.ok (.enter f args) w) (post:Value->World->Prop)
  (hc:Calls P f args w λe w''=>∃v,e=.returned v∧post v w'') (h:∀v w',post v w'->K (a.put o.dst v) w'):
  if Region.wanted o (yielded ops a.tmps)=true then Oper.wp P o a w K Q else E:=by
 have hw:Region.wanted o (yielded ops a.tmps)=true:=by simp [Region.wanted,hgd]
 rw [if_pos hw];unfold Oper.wp;rw [hrun,Oper.upon_enter];refine hc.mono λe w'' hh=>?_
 obtain ⟨v,rfl,hp⟩:=hh;exact h v w'' hp
end Go.Proofs.YthfnobboalhihaaGreat
