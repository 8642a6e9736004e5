import Derived.WalkKit
import Derived.WalkSpells
import Derived.WalkLawsBesides
import Derived.Deep.OwnRows
import Derived.Deep.QuietTactic
import Derived.BigQuiet
import Derived.Deep.RegionWith
import Derived.Lib.SmallJoins
namespace Go.Proofs.YthfnobboalhihaaGreat
open Go.RowKit Go.Joins
structure Kept (S:Nat->Prop) (A B:World):Prop where
 os:B.os=A.os
 tape:B.tape=A.tape
 output:B.output=A.output
 size:A.heap.size<=B.heap.size
 block:∀k,k < A.heap.size->S k->B.heap[k]? =A.heap[k]?
theorem Kept.refl (S:Nat->Prop) (A:World):Kept S A A:=⟨rfl,rfl,rfl,Nat.le_refl _,λ_ _ _=>rfl⟩
theorem Kept.trans {S:Nat->Prop} {A B C:World} (h:Kept S A B) (k:Kept S B C):Kept S A C:=
 ⟨k.os.trans h.os,k.tape.trans h.tape,k.output.trans h.output,Nat.le_trans h.size k.size,λi hi hs=>(k.block i (Nat.lt_of_lt_of_le hi h.size) hs).trans (h.block i hi hs)⟩
theorem Kept.mono {S T:Nat->Prop} {A B:World} (h:Kept S A B) (hT:∀b,b < A.heap.size->T b->S b):Kept T A B:=
 ⟨h.os,h.tape,h.output,h.size,λi hi ht=>h.block i hi (hT i hi ht)⟩
theorem Kept.below {S:Nat->Prop} {A B:World} (h:Kept S A B) {n:Nat} (hn:∀b,b < n->S b) (hA:n<=A.heap.size):Below n A B:=
 ⟨h.os,h.tape,h.output,h.size,λi hi=>h.block i (Nat.lt_of_lt_of_le hi hA) (hn i hi)⟩
theorem Kept.of_below {S:Nat->Prop} {A B:World} {n:Nat} (h:Below n A B) (hS:∀b,b < A.heap.size->S b->b < n):Kept S A B:=
 ⟨h.os,h.tape,h.output,h.size,λi hi hs=>h.block i (hS i hi hs)⟩
theorem kt {S:Nat->Prop} {A B:World} (h:Below A.heap.size A B):Kept S A B:=Kept.of_below h (λ_ hb _=>hb)
theorem Kept.alloc (S:Nat->Prop) (A:World) (o:Obj):Kept S A (A.alloc o):=
 ⟨rfl,rfl,rfl,by simp,λk hk _=>Below.heap_alloc _ _ _ hk⟩
theorem Kept.drew (S:Nat->Prop) (A:World):Kept S A A.drew:=⟨rfl,rfl,rfl,Nat.le_refl _,λ_ _ _=>rfl⟩
theorem Kept.setCell (S:Nat->Prop) (A:World) (p:Addr) (v:Value) (h:¬S p.block):Kept S A (A.setCell p v):=
 ⟨rfl,rfl,rfl,by simp [World.setCell],λk _ hs=>Below.heap_setCell _ _ _ _ (λe=>h (e▸hs))⟩
theorem Kept.set {S:Nat->Prop} {A B:World} (k:Kept S A B) {p:Addr} {v:Value} (h:¬S p.block):Kept S A (B.setCell p v):=k.trans (Kept.setCell S B p v h)
theorem Kept.cell {S:Nat->Prop} {A B:World} (h:Kept S A B) {p:Addr} (hl:p.block < A.heap.size) (hs:S p.block):B.cell? p=A.cell? p:=
 World.cell?_of_block (w:=A) (h.block p.block hl hs)
theorem Kept.frozen {S:Nat->Prop} {A B:World} (h:Kept S A B) {p:Addr} (hl:p.block < A.heap.size) (hs:S p.block):B.frozen? p=A.frozen? p:=
 World.frozen?_of_block (w:=A) (h.block p.block hl hs)
theorem Below.kept {A B:World} {n:Nat} {w:World} (h:Below n w A) {S:Nat->Prop} (k:Kept S A B) (hn:∀b,b < n->S b) (hw:n<=w.heap.size):Below n w B:=
 h.trans (k.below hn (Nat.le_trans hw h.size))
theorem addr_add (b o j:Nat):(⟨b,o,none⟩:Addr).add j=⟨b,o+j,none⟩:=by unfold Addr.add;split <;> simp_all
theorem hide {p:Prop} (h:p):Hid p:=h
inductive Fo where
 | nil:Fo
 | v (x:Value) (r:Fo):Fo
 | s (a:Option Addr) (n cap:Nat) (ks r:Fo):Fo
def Fo.vals:Fo->List Value
 | .nil=>[]
 | .v x r=>x ::r.vals
 | .s a n cap _ r=>.slice a n cap ::r.vals
def Fo.len:Fo->Nat
 | .nil=>0
 | .v _ r=>r.len+1
 | .s _ _ _ _ r=>r.len+1
def Fo.size:Fo->Nat
 | .nil=>0
 | .v _ r=>r.size+1
 | .s _ _ _ ks r=>ks.size+r.size+1
def bU:Value->Nat
 | .string t=>t.size
 | _=>0
def Fo.wt:Fo->Nat
 | .nil=>0
 | .v x r=>bU x+r.wt
 | .s _ n _ ks r=>n+ks.wt+r.wt
def Fo.ct:Fo->Nat
 | .nil=>0
 | .v _ r=>r.ct+1
 | .s _ _ _ ks r=>ks.ct+r.ct
def Fo.bZ:Fo->Nat
 | .nil=>0
 | .v _ r=>r.bZ
 | .s _ _ _ ks r=>ks.ct+r.bZ
def Fo.app:Fo->Fo->Fo
 | .nil,G=>G
 | .v x r,G=>.v x (r.app G)
 | .s a n cap ks r,G=>.s a n cap ks (r.app G)
theorem Fo.aB:∀F:Fo,F.vals.length=F.len
 | .nil=>rfl
 | .v _ r=>by simp only [Fo.vals,Fo.len,List.length_cons,r.aB]
 | .s _ _ _ _ r=>by simp only [Fo.vals,Fo.len,List.length_cons,r.aB]
theorem Fo.bX:∀F G:Fo,(F.app G).vals=F.vals++G.vals
 | .nil,_=>rfl
 | .v _ r,G=>by simp only [Fo.app,Fo.vals,r.bX G,List.cons_append]
 | .s _ _ _ _ r,G=>by simp only [Fo.app,Fo.vals,r.bX G,List.cons_append]
theorem Fo.aR:∀F G:Fo,(F.app G).len=F.len+G.len
 | .nil,_=>by simp [Fo.app,Fo.len]
 | .v _ r,G=>by simp only [Fo.app,Fo.len,r.aR G];omega
 | .s _ _ _ _ r,G=>by simp only [Fo.app,Fo.len,r.aR G];omega
theorem Fo.jl:∀F:Fo,F.app .nil=F
 | .nil=>rfl
 | .v _ r=>by simp only [Fo.app,r.jl]
 | .s _ _ _ _ r=>by simp only [Fo.app,r.jl]
theorem Fo.fw:∀F G H:Fo,(F.app G).app H=F.app (G.app H)
 | .nil,_,_=>rfl
 | .v _ r,G,H=>by simp only [Fo.app,r.fw G H]
 | .s _ _ _ _ r,G,H=>by simp only [Fo.app,r.fw G H]
theorem Fo.aM:∀F G:Fo,(F.app G).size=F.size+G.size
 | .nil,_=>by simp [Fo.app,Fo.size]
 | .v _ r,G=>by simp only [Fo.app,Fo.size,r.aM G];omega
 | .s _ _ _ _ r,G=>by simp only [Fo.app,Fo.size,r.aM G];omega
theorem Fo.dN:∀F G:Fo,(F.app G).wt=F.wt+G.wt
 | .nil,_=>by simp [Fo.app,Fo.wt]
 | .v _ r,G=>by simp only [Fo.app,Fo.wt,r.dN G];omega
 | .s _ _ _ _ r,G=>by simp only [Fo.app,Fo.wt,r.dN G];omega
theorem Fo.aW:∀F G:Fo,(F.app G).ct=F.ct+G.ct
 | .nil,_=>by simp [Fo.app,Fo.ct]
 | .v _ r,G=>by simp only [Fo.app,Fo.ct,r.aW G];omega
 | .s _ _ _ _ r,G=>by simp only [Fo.app,Fo.ct,r.aW G];omega
def bD (W:World) (L:List Value) (b o:Nat):Prop:=∀i v,L[i]? =some v->W.cell? ⟨b,o+i,none⟩=some v
theorem bD.keep {A B:World} {L:List Value} {b o:Nat} (h:bD A L b o) (k:∀j,o<=j->j < o+L.length->∀v,A.cell? ⟨b,j,none⟩=some v->B.cell? ⟨b,j,none⟩=some v):bD B L b o:=λi v hv=>by
 have hi:i < L.length:=(List.getElem?_eq_some_iff.1 hv).1;exact k (o+i) (by omega) (by omega) v (h i v hv)
theorem bD.below {A B:World} {n:Nat} {L:List Value} {b o:Nat} (h:bD A L b o) (k:Below n A B) (hb:b < n):bD B L b o:=λi v hv=>(k.cell (p:=⟨b,o+i,none⟩) hb).trans (h i v hv)
theorem bD.kept {A B:World} {S:Nat->Prop} {L:List Value} {b o:Nat} (h:bD A L b o) (k:Kept S A B) (hb:b < A.heap.size) (hs:S b):bD B L b o:=λi v hv=>(k.cell (p:=⟨b,o+i,none⟩) hb hs).trans (h i v hv)
theorem bD.left {W:World} {L M:List Value} {b o:Nat} (h:bD W (L++M) b o):bD W L b o:=λi v hv=>by
 have hi:i < L.length:=(List.getElem?_eq_some_iff.1 hv).1;exact h i v (by rw [List.getElem?_append_left hi];exact hv)
theorem bD.right {W:World} {L M:List Value} {b o:Nat} (h:bD W (L++M) b o):bD W M b (o+L.length):=λi v hv=>by
 have:=h (L.length+i) v (by rw [List.getElem?_append_right (by omega)];simpa using hv)
 rw [<- Nat.add_assoc] at this;exact this
theorem bD.join {W:World} {L M:List Value} {b o:Nat} (h:bD W L b o) (k:bD W M b (o+L.length)):bD W (L++M) b o:=λi v hv=>by
 by_cases hi:i < L.length
 .rw [List.getElem?_append_left hi] at hv;exact h i v hv
 .rw [List.getElem?_append_right (by omega)] at hv
  have:=k (i - L.length) v hv
  have e:o+L.length+(i - L.length)=o+i:=by omega
  rwa [e] at this
theorem bD.nil (W:World) (b o:Nat):bD W [] b o:=λi v hv=>by simp at hv
def Fo.av (W:World) (S:Nat->Prop):Fo->Prop
 | .nil=>True
 | .v _ r=>r.av W S
 | .s a n cap ks r=>(n<=cap∧cap<=maxLen∧(0 < ks.len->∃b o,a=some ⟨b,o,none⟩∧S b∧bD W ks.vals b o∧ks.av W S))∧r.av W S
def Fo.Sub (W:World) (S:Nat->Prop) (a:Option Addr) (n cap:Nat) (ks:Fo):Prop:=
 n<=cap∧cap<=maxLen∧(0 < ks.len->∃b o,a=some ⟨b,o,none⟩∧S b∧bD W ks.vals b o∧ks.av W S)
theorem Fo.av.keep {A B:World} {S T:Nat->Prop} (hT:∀b,S b->T b) (h2:∀p:Addr,S p.block->∀v,A.cell? p=some v->B.cell? p=some v):∀{F:Fo},F.av A S->F.av B T
 | .nil,_=>trivial
 | .v _ r,h=>Fo.av.keep hT h2 (F:=r) h
 | .s _ _ _ ks r,⟨⟨h1,h3,h4⟩,h5⟩=>⟨⟨h1,h3,λhl=>by
   obtain ⟨b,o,e,s,c,x⟩:=h4 hl;exact ⟨b,o,e,hT _ s,c.keep (λj _ _ v hv=>h2 ⟨b,j,none⟩ s v hv),Fo.av.keep hT h2 x⟩⟩,Fo.av.keep hT h2 h5⟩
theorem Fo.Sub.keep {A B:World} {S T:Nat->Prop} (hT:∀b,S b->T b) (h2:∀p:Addr,S p.block->∀v,A.cell? p=some v->B.cell? p=some v) {a:Option Addr} {n cap:Nat} {F:Fo} (h:F.Sub A S a n cap):F.Sub B T a n cap:=
 (Fo.av.keep hT h2 (F:=.s a n cap F .nil) ⟨h,trivial⟩).1
theorem Fo.av.kept {A B:World} {S T:Nat->Prop} (k:Kept T A B) (hS:∀b,S b->T b∧b < A.heap.size) {F:Fo} (h:F.av A S):F.av B S:=h.keep (λ_ x=>x) (λ_ hp _ hv=>(k.cell (hS _ hp).2 (hS _ hp).1).trans hv)
theorem Fo.Sub.kept {A B:World} {S T:Nat->Prop} (k:Kept T A B) (hS:∀b,S b->T b∧b < A.heap.size) {a:Option Addr} {n cap:Nat} {F:Fo} (h:F.Sub A S a n cap):F.Sub B S a n cap:=h.keep (λ_ x=>x) (λ_ hp _ hv=>(k.cell (hS _ hp).2 (hS _ hp).1).trans hv)
theorem Fo.av.below {A B:World} {n:Nat} {S:Nat->Prop} (k:Below n A B) (hS:∀b,S b->b < n) {F:Fo} (h:F.av A S):F.av B S:=h.keep (λ_ x=>x) (λ_ hp _ hv=>(k.cell (hS _ hp)).trans hv)
theorem Fo.Sub.below {A B:World} {m:Nat} {S:Nat->Prop} (k:Below m A B) (hS:∀b,S b->b < m) {a:Option Addr} {n cap:Nat} {F:Fo} (h:F.Sub A S a n cap):F.Sub B S a n cap:=h.keep (λ_ x=>x) (λ_ hp _ hv=>(k.cell (hS _ hp)).trans hv)
theorem Fo.av.mono {A:World} {S T:Nat->Prop} (hT:∀b,S b->T b) {F:Fo} (h:F.av A S):F.av A T:=h.keep hT (λ_ _ _ x=>x)
theorem Fo.av.app {W:World} {S:Nat->Prop}:∀{F G:Fo},F.av W S->G.av W S->(F.app G).av W S
 | .nil,_,_,h=>h
 | .v _ r,_,h,k=>Fo.av.app (F:=r) h k
 | .s _ _ _ _ _,_,⟨h,h'⟩,k=>⟨h,h'.app k⟩
theorem Fo.av.left {W:World} {S:Nat->Prop}:∀{F G:Fo},(F.app G).av W S->F.av W S
 | .nil,_,_=>trivial
 | .v _ r,_,h=>Fo.av.left (F:=r) h
 | .s _ _ _ _ r,_,⟨h,h'⟩=>⟨h,Fo.av.left (F:=r) h'⟩
theorem Fo.av.right {W:World} {S:Nat->Prop}:∀{F G:Fo},(F.app G).av W S->G.av W S
 | .nil,_,h=>h
 | .v _ r,_,h=>Fo.av.right (F:=r) h
 | .s _ _ _ _ r,_,⟨_,h'⟩=>Fo.av.right (F:=r) h'
def Fo.aG:Fo->Fo->Prop
 | .nil,.nil=>True
 | .v x r,.v y q=>x=y∧r.aG q
 | .s _ n _ ks r,.s _ m _ js q=>n=m∧ks.aG js∧r.aG q
 | _,_=>False
theorem Fo.cB:∀{G:Fo},G.aG .nil->G=.nil
 | .nil,_=>rfl
 | .v _ _,h=>h.elim
 | .s _ _ _ _ _,h=>h.elim
theorem Fo.aP:∀{G:Fo} {x:Value} {r:Fo},G.aG (.v x r)->∃q,G=.v x q∧q.aG r
 | .v _ q,_,_,⟨e,h⟩=>⟨q,by rw [e],h⟩
 | .nil,_,_,h=>h.elim
 | .s _ _ _ _ _,_,_,h=>h.elim
theorem Fo.aI:∀{G:Fo} {a:Option Addr} {n cap:Nat} {ks r:Fo},G.aG (.s a n cap ks r)->∃a' cap' js q,G=.s a' n cap' js q∧js.aG ks∧q.aG r
 | .s a' _ cap' js q,_,_,_,_,_,⟨e,h1,h2⟩=>⟨a',cap',js,q,by rw [e],h1,h2⟩
 | .nil,_,_,_,_,_,h=>h.elim
 | .v _ _,_,_,_,_,_,h=>h.elim
theorem Fo.aG.refl:∀F:Fo,F.aG F
 | .nil=>trivial
 | .v _ r=>⟨rfl,Fo.aG.refl r⟩
 | .s _ _ _ ks r=>⟨rfl,Fo.aG.refl ks,Fo.aG.refl r⟩
theorem Fo.aG.symm:∀{F G:Fo},F.aG G->G.aG F
 | .nil,_,h=>by cases ‹Fo› <;> first | trivial | exact h.elim
 | .v _ r,.v _ q,⟨a,b⟩=>⟨a.symm,b.symm⟩
 | .s _ _ _ _ _,.s _ _ _ _ _,⟨a,b,c⟩=>⟨a.symm,b.symm,c.symm⟩
 | .v _ _,.nil,h=>h.elim
 | .v _ _,.s _ _ _ _ _,h=>h.elim
 | .s _ _ _ _ _,.nil,h=>h.elim
 | .s _ _ _ _ _,.v _ _,h=>h.elim
theorem Fo.aG.trans:∀{F G H:Fo},F.aG G->G.aG H->F.aG H
 | .nil,.nil,_,_,h=>h
 | .v _ _,.v _ _,.v _ _,⟨a,b⟩,⟨c,d⟩=>⟨a.trans c,b.trans d⟩
 | .s _ _ _ _ _,.s _ _ _ _ _,.s _ _ _ _ _,⟨a,b,c⟩,⟨d,e,f⟩=>⟨a.trans d,b.trans e,c.trans f⟩
 | .v _ _,.v _ _,.nil,_,h=>h.elim
 | .v _ _,.v _ _,.s _ _ _ _ _,_,h=>h.elim
 | .s _ _ _ _ _,.s _ _ _ _ _,.nil,_,h=>h.elim
 | .s _ _ _ _ _,.s _ _ _ _ _,.v _ _,_,h=>h.elim
 | .nil,.v _ _,_,h,_=>h.elim
 | .nil,.s _ _ _ _ _,_,h,_=>h.elim
 | .v _ _,.nil,_,h,_=>h.elim
 | .v _ _,.s _ _ _ _ _,_,h,_=>h.elim
 | .s _ _ _ _ _,.nil,_,h,_=>h.elim
 | .s _ _ _ _ _,.v _ _,_,h,_=>h.elim
theorem Fo.aG.facts:∀{F G:Fo},F.aG G->F.len=G.len∧F.size=G.size∧F.wt=G.wt∧F.ct=G.ct∧F.bZ=G.bZ
 | .nil,.nil,_=>⟨rfl,rfl,rfl,rfl,rfl⟩
 | .v _ _,.v _ _,⟨e,h⟩=>by
  obtain ⟨h1,h2,h3,h4,h5⟩:=h.facts;subst e;simp only [Fo.len,Fo.size,Fo.wt,Fo.ct,Fo.bZ,h1,h2,h3,h4,h5,and_self]
 | .s _ _ _ _ _,.s _ _ _ _ _,⟨e,h,g⟩=>by
  obtain ⟨h1,h2,h3,h4,h5⟩:=h.facts;obtain ⟨g1,g2,g3,g4,g5⟩:=g.facts;subst e;simp only [Fo.len,Fo.size,Fo.wt,Fo.ct,Fo.bZ,h2,h3,h4,g1,g2,g3,g4,g5,and_self]
 | .nil,.v _ _,h=>h.elim
 | .nil,.s _ _ _ _ _,h=>h.elim
 | .v _ _,.nil,h=>h.elim
 | .v _ _,.s _ _ _ _ _,h=>h.elim
 | .s _ _ _ _ _,.nil,h=>h.elim
 | .s _ _ _ _ _,.v _ _,h=>h.elim
theorem Fo.aG.len {F G:Fo} (h:F.aG G):F.len=G.len:=h.facts.1
theorem Fo.aG.wt {F G:Fo} (h:F.aG G):F.wt=G.wt:=h.facts.2.2.1
theorem Fo.aG.bZ {F G:Fo} (h:F.aG G):F.bZ=G.bZ:=h.facts.2.2.2.2
theorem Fo.aG.app:∀{F F' G G':Fo},F.aG F'->G.aG G'->(F.app G).aG (F'.app G')
 | .nil,.nil,_,_,_,h=>h
 | .v _ _,.v _ _,_,_,⟨a,b⟩,h=>⟨a,b.app h⟩
 | .s _ _ _ _ _,.s _ _ _ _ _,_,_,⟨a,b,c⟩,h=>⟨a,b,c.app h⟩
 | .nil,.v _ _,_,_,h,_=>h.elim
 | .nil,.s _ _ _ _ _,_,_,h,_=>h.elim
 | .v _ _,.nil,_,_,h,_=>h.elim
 | .v _ _,.s _ _ _ _ _,_,_,h,_=>h.elim
 | .s _ _ _ _ _,.nil,_,_,h,_=>h.elim
 | .s _ _ _ _ _,.v _ _,_,_,h,_=>h.elim
inductive bq where
 | i:bq
 | b:bq
 | u:bq
 | t:bq
 | s (k:Nat):bq
def rep (fs:List bq):Nat->List bq
 | 0=>[]
 | n+1=>fs++rep fs n
def Fit (E:Nat->List bq):Fo->List bq->Prop
 | .nil,[]=>True
 | .v (.int .i64 x) r,.i ::fs=>(Lit.int .i64 x).wf=true∧Fit E r fs
 | .v (.bool _) r,.b ::fs=>Fit E r fs
 | .v (.int .u32 x) r,.u ::fs=>(Lit.int .u32 x).wf=true∧Fit E r fs
 | .v (.string x) r,.t ::fs=>x.size<=maxLen∧Fit E r fs
 | .s _ n _ ks r,.s k ::fs=>Fit E ks (rep (E k) n)∧Fit E r fs
 | _,_=>False
theorem ai {E:Nat->List bq}:∀{F:Fo},Fit E F []->F=.nil
 | .nil,_=>rfl
 | .v x _,h=>by cases x <;> simp [Fit] at h
 | .s _ _ _ _ _,h=>by simp [Fit] at h
theorem eu {E:Nat->List bq}:∀{F:Fo} {fs:List bq},Fit E F (.i ::fs)->∃x r,F=.v (.int .i64 x) r∧(Lit.int .i64 x).wf=true∧Fit E r fs
 | .v (.int .i64 x) r,_,⟨h1,h2⟩=>⟨x,r,rfl,h1,h2⟩
 | .nil,_,h=>by simp [Fit] at h
 | .s _ _ _ _ _,_,h=>by simp [Fit] at h
theorem aU {E:Nat->List bq}:∀{F:Fo} {fs:List bq},Fit E F (.t ::fs)->∃x r,F=.v (.string x) r∧x.size<=maxLen∧Fit E r fs
 | .v (.string x) r,_,⟨h1,h2⟩=>⟨x,r,rfl,h1,h2⟩
 | .nil,_,h=>by simp [Fit] at h
 | .s _ _ _ _ _,_,h=>by simp [Fit] at h
theorem dE {E:Nat->List bq}:∀{F:Fo} {fs:List bq},Fit E F (.b ::fs)->∃x r,F=.v (.bool x) r∧Fit E r fs
 | .v (.bool x) r,_,h=>⟨x,r,rfl,h⟩
 | .nil,_,h=>by simp [Fit] at h
 | .s _ _ _ _ _,_,h=>by simp [Fit] at h
theorem jy {E:Nat->List bq}:∀{F:Fo} {fs:List bq},Fit E F (.u ::fs)->∃x r,F=.v (.int .u32 x) r∧(Lit.int .u32 x).wf=true∧Fit E r fs
 | .v (.int .u32 x) r,_,⟨h1,h2⟩=>⟨x,r,rfl,h1,h2⟩
 | .nil,_,h=>by simp [Fit] at h
 | .s _ _ _ _ _,_,h=>by simp [Fit] at h
theorem ay {E:Nat->List bq} {k:Nat}:∀{F:Fo} {fs:List bq},Fit E F (.s k ::fs)->∃a n cap ks r,F=.s a n cap ks r∧Fit E ks (rep (E k) n)∧Fit E r fs
 | .s a n cap ks r,_,⟨h1,h2⟩=>⟨a,n,cap,ks,r,rfl,h1,h2⟩
 | .nil,_,h=>by simp [Fit] at h
 | .v x _,_,h=>by cases x <;> simp [Fit] at h
def gT (s:Nat->Nat) (f:Nat):Nat->Nat
 | 0=>0
 | n+1=>gT s f n+s (f+n)
theorem OM (s:Nat->Nat) (f:Nat) {n m:Nat} (h:n<=m):gT s f n<=gT s f m:=by
 induction h with
 | refl=>exact Nat.le_refl _
 | step _ ih=>exact Nat.le_trans ih (Nat.le_add_right _ _)
structure Gr where
 nl:Nat
 nt:Nat
 fst:Nat->Nat
 cnt:Nat->Nat
 pl:Nat->Nat
 ql:Nat->Nat
 sT:Nat->Nat
 w:Nat->Nat
 cp:Nat
def Gr.sL (g:Gr) (l:Nat):Nat:=gT g.sT (g.fst l) (g.cnt l)
structure Gr.Ok (g:Gr):Prop where
 bnd:∀l,l < g.nl->g.fst l+g.cnt l<=g.nt
 pq:∀k,k < g.nt->g.pl k < g.nl∧g.ql k < g.nl
 sz:∀k,k < g.nt->g.sT k=g.w k+g.sL (g.pl k)+g.sL (g.ql k)
 one:∀k,k < g.nt->1<=g.w k
 top:∀l,l < g.nl->g.sL l<=1000000000
 lim:g.nl<=10000000∧g.nt<=10000000
theorem Gr.part (g:Gr) {l n:Nat} (h:n < g.cnt l):gT g.sT (g.fst l) n+g.sT (g.fst l+n)<=g.sL l:=OM g.sT (g.fst l) (n:=n+1) h
def Gr.OO (g:Gr):List (Nat×Nat)->Prop
 | []=>True
 | [_]=>True
 | x ::y ::r=>(y.2 < g.cnt y.1∧g.sL x.1 < g.sT (g.fst y.1+y.2))∧g.OO (y ::r)
theorem Gr.Cb (g:Gr) {x:Nat×Nat} {r:List (Nat×Nat)} (h:g.OO (x ::r)):g.OO r:=by
 cases r with
 | nil=>trivial
 | cons y r=>exact h.2
theorem Gr.Dt (g:Gr):∀(r:List (Nat×Nat)) (x:Nat×Nat),g.OO (x ::r)->∀e∈r,g.sL x.1 < g.sL e.1
 | [],_,_,e,he=>by cases he
 | y ::r,x,h,e,he=>by
  have h1:g.sL x.1 < g.sL y.1:=by have:=g.part h.1.1;have:=h.1.2;omega
  rcases List.mem_cons.1 he with rfl | he
  .exact h1
  .have:=g.Dt r y h.2 e he
   omega
structure Gr.MI (g:Gr) (T L:Nat->Int) (st:List (Nat×Nat)):Prop where
 Lj:∀k,k < g.nt->T k=-1∨T k=g.sT k
 IL:∀l,l < g.nl->L l=-1∨L l=g.sL l∨l∈st.map Prod.fst
 op:∀e∈st,e.1 < g.nl∧e.2<=g.cnt e.1
 ch:g.OO st
def upd (f:Nat->Int) (i:Nat) (v:Int):Nat->Int:=λj=>if j=i then v else f j
theorem upd_same (f:Nat->Int) (i:Nat) (v:Int):upd f i v i=v:=if_pos rfl
theorem upd_ne (f:Nat->Int) {i j:Nat} (v:Int) (h:j≠i):upd f i v j=f j:=if_neg h
section
variable {g:Gr} {T L:Nat->Int} {st:List (Nat×Nat)}
theorem Gr.MI.distinct (h:g.MI T L st):(st.map Prod.fst).Nodup:=by
 have hc:=h.ch;clear h
 induction st with
 | nil=>exact List.nodup_nil
 | cons x r ih=>
  rw [List.map_cons,List.nodup_cons];refine ⟨λhm=>?_,ih (g.Cb hc)⟩;obtain ⟨e,he,e1⟩:=List.mem_map.1 hm
  have:=g.Dt r x hc e he
  rw [e1] at this;omega
theorem Gr.MI.pop {l n:Nat} (h:g.MI T L ((l,n)::st)) (hn:n=g.cnt l):g.MI T (upd L l (gT g.sT (g.fst l) n)) st:=by
 refine ⟨h.Lj,λj hj=>?_,λe he=>h.op e (List.mem_cons_of_mem _ he),g.Cb h.ch⟩
 by_cases hjl:j=l
 .subst hjl
  rw [upd_same];exact .inr (.inl (by rw [hn];rfl))
 .rw [upd_ne _ _ hjl]
  rcases h.IL j hj with h1 | h1 | h1
  .exact .inl h1
  .exact .inr (.inl h1)
  .rcases List.mem_cons.1 h1 with e | e
   .exact absurd e hjl
   .exact .inr (.inr e)
theorem Gr.MI.closed {l n p:Nat} (ho:g.Ok) (h:g.MI T L ((l,n)::st)) (hn:n < g.cnt l) (hp:p=g.pl (g.fst l+n)∨p=g.ql (g.fst l+n)):p < g.nl∧g.sL p < g.sT (g.fst l+n)∧(L p=-1∨L p=g.sL p):=by
 have hl:=(h.op (l,n) List.mem_cons_self).1;have hk:g.fst l+n < g.nt:=by have:=ho.bnd l hl;have:n < g.cnt l:=hn;omega
 have h1:=ho.pq _ hk;have h2:=ho.sz _ hk;have h20:=ho.one _ hk;have hpn:p < g.nl:=by rcases hp with rfl | rfl <;> omega
 have hs:g.sL p < g.sT (g.fst l+n):=by rcases hp with rfl | rfl <;> omega
 refine ⟨hpn,hs,?_⟩;rcases h.IL p hpn with h3 | h3 | h3
 .exact .inl h3
 .exact .inr h3
 .exfalso
  obtain ⟨e,he,e1⟩:=List.mem_map.1 h3;have h4:=g.part hn;rcases List.mem_cons.1 he with rfl | he
  .have Xw:l=p:=e1
   rw [<- Xw] at hs;omega
  .have:=g.Dt _ _ h.ch e he
   have h5:g.sL l < g.sL e.1:=this;rw [e1] at h5;omega
theorem Gr.MI.opn {l n p:Nat} (ho:g.Ok) (h:g.MI T L ((l,n)::st)) (hn:n < g.cnt l) (hp:p=g.pl (g.fst l+n)∨p=g.ql (g.fst l+n)) (v:Int):g.MI T (upd L p v) ((p,0)::(l,n)::st):=by
 obtain ⟨h1,h2,-⟩:=h.closed ho hn hp;refine ⟨h.Lj,λj hj=>?_,λe he=>?_,⟨⟨hn,h2⟩,h.ch⟩⟩
 .by_cases hjp:j=p
  .exact .inr (.inr (by rw [hjp];simp))
  .rw [upd_ne _ _ hjp]
   rcases h.IL j hj with h3 | h3 | h3
   .exact .inl h3
   .exact .inr (.inl h3)
   .exact .inr (.inr (List.mem_cons_of_mem _ h3))
 .rcases List.mem_cons.1 he with rfl | he
  .exact ⟨h1,Nat.zero_le _⟩
  .exact h.op e he
theorem Gr.MI.term {l n:Nat} (ho:g.Ok) (h:g.MI T L ((l,n)::st)) (hn:n < g.cnt l) (hp:L (g.pl (g.fst l+n))≠-1) (hq:L (g.ql (g.fst l+n))≠-1):
  g.w (g.fst l+n)+L (g.pl (g.fst l+n))+L (g.ql (g.fst l+n))=g.sT (g.fst l+n)∧g.MI (upd T (g.fst l+n) (g.sT (g.fst l+n))) L ((l,n)::st):=by
 obtain ⟨-,-,h1⟩:=h.closed ho hn (.inl rfl);obtain ⟨-,-,h2⟩:=h.closed ho hn (.inr rfl);have hl:=(h.op (l,n) List.mem_cons_self).1;have hk:g.fst l+n < g.nt:=by have:=ho.bnd l hl;have:n < g.cnt l:=hn;omega
 have h3:=ho.sz _ hk;have e1:=h1.resolve_left hp;have e2:=h2.resolve_left hq;refine ⟨by rw [e1,e2];omega,⟨λj hj=>?_,h.IL,h.op,h.ch⟩⟩
 by_cases hj2:j=g.fst l+n
 .rw [hj2,upd_same];exact .inr rfl
 .rw [upd_ne _ _ hj2];exact h.Lj j hj
theorem Gr.MI.adv {l n:Nat} (h:g.MI T L ((l,n)::st)) (hn:n < g.cnt l):g.MI T L ((l,n+1)::st):=by
 refine ⟨h.Lj,h.IL,λe he=>?_,?_⟩
 .rcases List.mem_cons.1 he with rfl | he
  .exact ⟨(h.op (l,n) List.mem_cons_self).1,hn⟩
  .exact h.op e (List.mem_cons_of_mem _ he)
 .have hc:=h.ch
  cases st with
  | nil=>trivial
  | cons y r=>exact hc
theorem Gr.MI.first (h:g.MI T L []) {l:Nat} (hl:l < g.nl) (v:Int):g.MI T (upd L l v) [(l,0)]:=by
 refine ⟨h.Lj,λj hj=>?_,λe he=>?_,trivial⟩
 .by_cases hjl:j=l
  .exact .inr (.inr (by rw [hjl];simp))
  .rw [upd_ne _ _ hjl]
   rcases h.IL j hj with h3 | h3 | h3
   .exact .inl h3
   .exact .inr (.inl h3)
   .cases h3
 .rcases List.mem_cons.1 he with rfl | he
  .exact ⟨hl,Nat.zero_le _⟩
  .cases he
end
def Gr.opn (g:Gr) (L:Nat->Int):Nat->Nat
 | 0=>0
 | n+1=>g.opn L n+(if L n=-1 then g.cnt n+2 else 0)
def Gr.rest (g:Gr):List (Nat×Nat)->Nat
 | []=>0
 | (l,n)::r=>(g.cnt l - n+1)+g.rest r
def Gr.left (g:Gr) (L:Nat->Int) (st:List (Nat×Nat)):Nat:=g.opn L g.nl+g.rest st
theorem Gr.Av (g:Gr) (L:Nat->Int) (p:Nat) (v:Int) (hv:v≠-1):∀n,g.opn (upd L p v) n+(if p < n then (if L p=-1 then g.cnt p+2 else 0) else 0)=g.opn L n
 | 0=>by simp [Gr.opn]
 | n+1=>by
  have ih:=g.Av L p v hv n;rw [Gr.opn,Gr.opn]
  by_cases h:n=p
  .subst h
   rw [upd_same,if_neg hv,if_pos (Nat.lt_succ_self _)];rw [if_neg (Nat.lt_irrefl _)] at ih;omega
  .rw [upd_ne _ _ h]
   by_cases h2:p < n
   .rw [if_pos h2] at ih
    have e:(if p < n+1 then (if L p=-1 then g.cnt p+2 else 0) else 0)=(if L p=-1 then g.cnt p+2 else 0):=if_pos (by omega);rw [e];omega
   .rw [if_neg h2] at ih
    have e:(if p < n+1 then (if L p=-1 then g.cnt p+2 else 0) else 0)=0:=if_neg (by omega);rw [e];omega
theorem Gr.Sa (g:Gr) (L:Nat->Int) (p:Nat) (v:Int) (hv:v≠-1) (n:Nat):g.opn (upd L p v) n<=g.opn L n:=by
 have:=g.Av L p v hv n
 omega
theorem Gr.KY (g:Gr) (L:Nat->Int) {l n:Nat} {st:List (Nat×Nat)} (v:Int) (hv:v≠-1):g.left (upd L l v) st < g.left L ((l,n)::st):=by
 have:=g.Sa L l v hv g.nl
 simp only [Gr.left,Gr.rest];omega
theorem Gr.KT (g:Gr) (L:Nat->Int) {l n:Nat} {st:List (Nat×Nat)} (hn:n < g.cnt l):g.left L ((l,n+1)::st) < g.left L ((l,n)::st):=by
 simp only [Gr.left,Gr.rest];omega
theorem Gr.KU (g:Gr) (L:Nat->Int) {p:Nat} {st:List (Nat×Nat)} (v:Int) (hv:v≠-1) (hp:p < g.nl) (hL:L p=-1):g.left (upd L p v) ((p,0)::st) < g.left L st:=by
 have:=g.Av L p v hv g.nl
 rw [if_pos hp,if_pos hL] at this;simp only [Gr.left,Gr.rest];omega
end Go.Proofs.YthfnobboalhihaaGreat
