import Derived.Test.YthfnobboalhihaaGreatUt
import Derived.RangeFuncNested
import Derived.RangeFuncBound
import Derived.RangeFuncCalls
import Derived.RangeFuncLeaves
import Derived.Shelf.Abstract
import Derived.Shelf.RegionOpen
import Derived.OwnWalkIn
import Derived.TacticsInMore
import Derived.LoopNIn
import Derived.LoopIn
set_option maxHeartbeats 2000000
set_option maxRecDepth 100000
namespace Go.Proofs.YthfnobboalhihaaGreat
open Go.RowKit Go.Joins
theorem zz132 {P:Prop} (h:P:=by
 obtain ⟨au,ca,cn,cc,ck,y,rfl,-,hck,hy⟩:=aK hx;obtain ⟨k,nm,mn,la,ln,lc,lk,na,nn,nc,nk,ka,kn,kc,kk,aa,an,ac,ak,rfl,-⟩:=ag hy;simp only [Fo.app,aJ,List.map_cons,ih]):P:=h
theorem zz183 {P:Prop} (h:P:=by
 obtain ⟨n,hn⟩:=h;unfold least;rw [dif_pos (exists_least n hn)];exact (Classical.choose_spec (exists_least n hn)).1):P:=h
theorem zz201 {P:Prop} (h:P:=by
 unfold least;rw [dif_pos (exists_least n h)];exact (Classical.choose_spec (exists_least n h)).2 n h):P:=h
theorem Kept.al {S:Nat->Prop} {A B:World} {o:Obj} (h:Kept S A B):Kept S A (B.alloc o):=h.trans (Kept.alloc S B o)
theorem Kept.dr {S:Nat->Prop} {A B:World} (h:Kept S A B):Kept S A B.drew:=h.trans (Kept.drew S B)
theorem Dz (W:World) (o:Obj):(W.alloc o).drew.heap[W.heap.size]? =some o:=(MapKept.heap_alloc W o).1
inductive Item where
 | row (e:TypeId) (sz:Nat) (v:Value) (n:Nat) (F:Fo)
 | fo (F:Fo)
def ob (v:Value):List Nat:=v.ownBlock.toList
def Item.bl:Item->List Nat
 | .row _ _ v _ F=>ob v++F.ah
 | .fo F=>F.ah
def Item.ok (V:World):Item->Prop
 | .row e sz v n F=>V.ownsRow 0 e sz v n F.vals∧F.av V (λc=>c < V.heap.size)∧Live V F.ah
 | .fo F=>F.av V (λc=>c < V.heap.size)∧Live V F.ah
def rD (L:List Item):List Nat:=L.flatMap Item.bl
theorem iH (i:Item) (L:List Item):rD (i ::L)=i.bl++rD L:=rfl
theorem jw {v:Value} {c:Nat}:c∈ob v↔v.ownBlock=some c:=by
 unfold ob;rw [Option.mem_toList]
theorem qF {W:World} {B:Nat} {e:TypeId} {size n:Nat} {v:Value} {xs:List Value} (h:W.ownsRow B e size v n xs) {c:Nat} (hc:v.ownBlock=some c):c < W.heap.size:=by
 rcases h.2 with ⟨rfl,-⟩ | ⟨b,cap,cur,rfl,hb,hg,-⟩
 .simp [Value.ownBlock] at hc
 .have e:b=c:=Option.some.inj hc
  subst e;exact (Array.getElem?_eq_some_iff.1 hg).1
theorem Item.ok.lt {V:World} {i:Item} (h:i.ok V) {c:Nat} (hc:c∈i.bl):c < V.heap.size:=by
 cases i with
 | row e sz v n F=>
  rcases List.mem_append.1 hc with hc | hc
  .exact qF h.1 (jw.1 hc)
  .exact h.2.1.bu c hc
 | fo F=>exact h.1.bu c hc
theorem qJ {A B:World} {S:Nat->Prop} {F:Fo} (h:F.av A (λc=>c < A.heap.size)) (k:Kept S A B) (hS:∀c∈F.ah,S c):F.av B (λc=>c < B.heap.size):=by
 have hi:=h.bu;have hz:=k.size;exact (h.own.kept k (λc hc=>⟨hS c hc,hi c hc⟩)).mono (λc hc=>Nat.lt_of_lt_of_le (hi c hc) hz)
theorem Item.ok.kept {A B:World} {S:Nat->Prop} {i:Item} (h:i.ok A) (k:Kept S A B) (hS:∀c∈i.bl,S c):i.ok B:=by
 cases i with
 | row e sz v n F=>
  have h1:∀c∈F.ah,S c:=λc hc=>hS c (List.mem_append.2 (.inr hc))
  exact ⟨aj h.1 k (λc hc=>hS c (List.mem_append.2 (.inl (jw.2 hc)))),qJ h.2.1 k h1,h.2.2.kept k (λc hc=>⟨h1 c hc,h.2.1.bu c hc⟩)⟩
 | fo F=>exact ⟨qJ h.1 k hS,h.2.kept k (λc hc=>⟨hS c hc,h.1.bu c hc⟩)⟩
structure Hp (P:Nat->Prop) (L:List Item) (V:World):Prop where
 ok:∀i∈L,i.ok V
 nd:(rD L).Nodup
 fr:∀c∈rD L,¬P c
theorem Hp.lt {P:Nat->Prop} {L:List Item} {V:World} (h:Hp P L V) {c:Nat} (hc:c∈rD L):c < V.heap.size:=by
 obtain ⟨i,hi,hc⟩:=List.mem_flatMap.1 hc;exact (h.ok i hi).lt hc
theorem Hp.kept {P S:Nat->Prop} {L:List Item} {A B:World} (h:Hp P L A) (k:Kept S A B) (hS:∀c∈rD L,S c):Hp P L B:=
 ⟨λi hi=>(h.ok i hi).kept k (λc hc=>hS c (List.mem_flatMap.2 ⟨i,hi,hc⟩)),h.nd,h.fr⟩
theorem Hp.keep {P:Nat->Prop} {L:List Item} {A B:World} (h:Hp P L A) (k:Kept (λ_=>True) A B):Hp P L B:=h.kept k (λ_ _=>trivial)
theorem Hp.put {P:Nat->Prop} {L:List Item} {A:World} (h:Hp P L A) (p:Addr) (v:Value) (hp:P p.block):Hp P L (A.setCell p v):=
 h.kept (Kept.setCell (λc=>¬c=p.block) _ _ _ (by simp)) (λc hc e=>h.fr c hc (by rw [e];exact hp))
theorem Cg {L M:List Item} (hp:L.Perm M):(rD L).Perm (rD M):=hp.flatMap_right _
theorem Hp.perm {P:Nat->Prop} {L M:List Item} {A:World} (h:Hp P L A) (hp:L.Perm M):Hp P M A:=
 ⟨λi hi=>h.ok i (hp.mem_iff.2 hi),(Cg hp).nodup_iff.1 h.nd,λc hc=>h.fr c ((Cg hp).mem_iff.2 hc)⟩
theorem Hp.empty {P:Nat->Prop} {L:List Item} {A:World} (h:Hp P L A) (e:TypeId) (sz:Nat):Hp P (.row e sz (.slice none 0 0) 0 .nil ::L) A:=
 ⟨λi hi=>by
  rcases List.mem_cons.1 hi with rfl | hi
  .exact ⟨⟨by simp [Fo.vals],.inl ⟨rfl,rfl⟩⟩,trivial,λc hc=>by simp [Fo.ah] at hc⟩
  .exact h.ok i hi,by rw [iH];simpa [Item.bl,ob,Value.ownBlock,Fo.ah] using h.nd,λc hc=>h.fr c (by rw [iH] at hc;simpa [Item.bl,ob,Value.ownBlock,Fo.ah] using hc)⟩
theorem Hp.v {P:Nat->Prop} {L:List Item} {A:World} {X:Fo} (x:Value) (h:Hp P (.fo X ::L) A):Hp P (.fo (.v x X)::L) A:=
 ⟨λi hi=>by
  rcases List.mem_cons.1 hi with rfl | hi
  .exact h.ok (.fo X) List.mem_cons_self
  .exact h.ok i (List.mem_cons_of_mem _ hi),h.nd,h.fr⟩
theorem Hp.app {P:Nat->Prop} {L:List Item} {A:World} {X Y:Fo} (h:Hp P (.fo X ::.fo Y ::L) A):Hp P (.fo (X.app Y)::L) A:=by
 have hx:=h.ok _ List.mem_cons_self;have hy:=h.ok _ (List.mem_cons_of_mem _ List.mem_cons_self);have e:rD (.fo (X.app Y)::L)=rD (.fo X ::.fo Y ::L):=by simp only [iH,Item.bl,Fo.aQ,List.append_assoc]
 refine ⟨λi hi=>?_,by rw [e];exact h.nd,λc hc=>h.fr c (by rw [e] at hc;exact hc)⟩;rcases List.mem_cons.1 hi with rfl | hi
 .exact ⟨hx.1.app hy.1,by rw [Fo.aQ];exact hx.2.app hy.2⟩
 .exact h.ok i (List.mem_cons_of_mem _ (List.mem_cons_of_mem _ hi))
theorem Hp.grow {P:Nat->Prop} {L:List Item} {A B:World} {e:TypeId} {sz n m:Nat} {v v':Value} {F X:Fo} (h:Hp P (.row e sz v n F ::.fo X ::L) A) (hP:∀c,P c->c < A.heap.size) (hG:A.grownBy B v.ownBlock) (hO:B.ownsRow 0 e sz v' m (F.vals++X.vals)) (hat:v'.ownBlock=v.ownBlock∨v'.ownBlock=some A.heap.size):
  Hp P (.row e sz v' m (F.app X)::L) B∧Kept (λc=>v.ownBlock≠some c) A B:=by
 have k:Kept (λc=>v.ownBlock≠some c) A B:=Kept.grown hG (λc e1 e2=>e2 e1);have hr:=h.ok _ List.mem_cons_self;have hx:=h.ok _ (List.mem_cons_of_mem _ List.mem_cons_self);have hnd:=h.nd;simp only [iH,Item.bl,List.append_assoc] at hnd;obtain ⟨n1,n2,n3⟩:=List.nodup_append.1 hnd;have hne:∀c,c∈F.ah++(X.ah++rD L)->v.ownBlock≠some c:=λc hc e=>n3 c (jw.2 e) c hc rfl
 have hF:∀c∈F.ah,v.ownBlock≠some c:=λc hc=>hne c (List.mem_append.2 (.inl hc))
 have hX:∀c∈X.ah,v.ownBlock≠some c:=λc hc=>hne c (List.mem_append.2 (.inr (List.mem_append.2 (.inl hc))))
 refine ⟨⟨λi hi=>?_,?_,?_⟩,k⟩
 .rcases List.mem_cons.1 hi with rfl | hi
  .refine ⟨by rw [Fo.bX];exact hO,(qJ hr.2.1 k hF).app (qJ hx.1 k hX),?_⟩
   rw [Fo.aQ];exact (hr.2.2.kept k (λc hc=>⟨hF c hc,hr.2.1.bu c hc⟩)).app (hx.2.kept k (λc hc=>⟨hX c hc,hx.1.bu c hc⟩))
  .exact (h.ok i (List.mem_cons_of_mem _ (List.mem_cons_of_mem _ hi))).kept k (λc hc=>hne c (List.mem_append.2 (.inr (List.mem_append.2 (.inr (List.mem_flatMap.2 ⟨i,hi,hc⟩))))))
 .simp only [iH,Item.bl,Fo.aQ,List.append_assoc]
  rcases hat with e1 | e1
  .unfold ob;rw [e1];exact hnd
  .have e2:ob v'=[A.heap.size]:=by unfold ob;rw [e1];rfl
   rw [e2,List.singleton_append,List.nodup_cons];refine ⟨λhc=>?_,n2⟩
   have:=h.lt (c:=A.heap.size) (by simp only [iH,Item.bl,List.append_assoc];exact List.mem_append.2 (.inr hc))
   omega
 .intro c hc
  simp only [iH,Item.bl,Fo.aQ,List.append_assoc] at hc;rcases List.mem_append.1 hc with hc | hc
  .have hc:=jw.1 hc
   rcases hat with e1 | e1
   .exact h.fr c (by simp only [iH,Item.bl,List.append_assoc];exact List.mem_append.2 (.inl (jw.2 (by rw [<- e1];exact hc))))
   .rw [e1] at hc
    intro hp
    have:=hP c hp
    have:A.heap.size=c:=Option.some.inj hc
    omega
  .exact h.fr c (by simp only [iH,Item.bl,List.append_assoc];exact List.mem_append.2 (.inr hc))
theorem Hp.aaf {P:Nat->Prop} {L:List Item} {A:World} {i j:Item} (h:Hp P (i ::L) A) (hj:j.ok A) (hs:j.bl.Sublist i.bl):Hp P (j ::L) A:=by
 have hs':(rD (j ::L)).Sublist (rD (i ::L)):=hs.append (List.Sublist.refl _);exact ⟨λq hq=>by rcases List.mem_cons.1 hq with rfl | hq;exact hj;exact h.ok q (List.mem_cons_of_mem _ hq),hs'.nodup h.nd,λc hc=>h.fr c (hs'.subset hc)⟩
theorem Ps (a:Option Addr) (n cap k:Nat):(blk a k).Sublist (ob (.slice a n cap)):=by
 cases a with
 | none=>cases k <;> simp [blk]
 | some a=>
  cases k with
  | zero=>rw [jv];exact List.nil_sublist _
  | succ k=>rw [aT (Nat.succ_pos _)];exact List.Sublist.refl _
theorem Hp.shut {P:Nat->Prop} {L:List Item} {A:World} {e:TypeId} {sz n:Nat} {v:Value} {F:Fo} (h:Hp P (.row e sz v n F ::L) A):∃a cap,v=.slice a n cap∧Hp P (.fo (.s a n cap F .nil)::L) A:=by
 have hr:=h.ok _ List.mem_cons_self;have hnd:=h.nd;simp only [iH,Item.bl] at hnd;have aag:=(List.nodup_append.1 hnd).1;obtain ⟨a,cap,rfl,ho⟩:=IE hr.1 (λ_ _=>hr.2.1.mono (λc hc=>⟨Nat.zero_le _,hc⟩)) (λg hg=>⟨by simpa [ob,hg] using aag,hr.2.2⟩);refine ⟨a,cap,rfl,h.aaf ⟨ho.subs.mono (λ_ x=>x.2),ho.live⟩ ?_⟩;simp only [Item.bl,Fo.ah,List.append_nil];exact (Ps a n cap F.len).append (List.Sublist.refl _)
theorem Hp.own {P:Nat->Prop} {A:World} {F:Fo} {L:List Item} {lo:Nat} (h:Hp P (.fo F ::L) A) (hlo:∀c,c < lo->P c):Own lo A F:=by
 have hr:=h.ok _ List.mem_cons_self;have hnd:=(List.nodup_append.1 h.nd).1;refine ⟨hr.1.own.mono (λc hc=>⟨Nat.not_lt.1 (λhx=>h.fr c (List.mem_append.2 (.inl hc)) (hlo c hx)),hr.1.bu c hc⟩),hnd,hr.2⟩
theorem Hp.SG {P:Nat->Prop} {A:World} {F:Fo} {L:List Item} {lo:Nat} (h:Hp P L A) (ho:Own lo A F) (hP:∀c,lo<=c->¬P c) (hL:∀c∈rD L,c < lo):Hp P (.fo F ::L) A:=by
 have hi:=ho.subs.bu;refine ⟨λi hq=>by rcases List.mem_cons.1 hq with rfl | hq;exact ⟨ho.subs.mono (λ_ x=>x.2),ho.live⟩;exact h.ok i hq,?_,?_⟩
 .rw [iH,List.nodup_append]
  exact ⟨ho.nodup,h.nd,λa ha b hb e=>by have:=(hi a ha).1;have:=hL b hb;omega⟩
 .intro c hc
  rcases List.mem_append.1 hc with hc | hc
  .exact hP c (hi c hc).1
  .exact h.fr c hc
theorem jq {W:World} {B g cap:Nat} {e:TypeId} {sz n:Nat} {xs ys:List Value} {x:Value} (h:W.ownsRow B e sz (.slice (some ⟨g,0,none⟩) n cap) n (xs++x ::ys)) (y:Value):
  (W.setCell ⟨g,xs.length,none⟩ y).ownsRow B e sz (.slice (some ⟨g,0,none⟩) n cap) n (xs++y ::ys):=by
 have hl:=h.1;rcases h.2 with ⟨h1,h2⟩ | ⟨b,cap',cur,hv,hb,hg,hnc,hcm,hcs,ht⟩
 .cases h1
 .cases hv
  refine ⟨by simpa using hl,.inr ⟨g,cap,cur.setIfInBounds xs.length y,rfl,hb,?_,hnc,hcm,by simpa using hcs,?_⟩⟩
  .simp [World.setCell,Array.getElem?_modify,hg]
  .rw [Array.toList_setIfInBounds,List.take_set,ht,List.set_append_right _ _ (Nat.le_refl _),Nat.sub_self]
   rfl
theorem iB {P:Program} {ops:Array Oper} {rest:List Oper} {o:Oper} {a:Act} {Q:Exit->Act->World->Prop} (hgd:o.guard=none) (s x:Operand) (t e:TypeId)
  (ho:o.op=.call {callee:=.builtin .append,args:=#[s,x],argTypes:=#[t,t]}) {z:Value} {size bytes:Nat} (hinfo:(P.info? e).map (λi=>(i.zero,i.size,i.bytes))=some (some z,size,bytes)) (ht:P.underlying t=some (.slice e)) (hzs:z.cells.size=size) (hsz:0 < size)
  (B:Nat) (W:World) (v:Value) (n:Nat) (xs ys:List Value) (bb c2:Nat) (hs:a.eval s=v) (hx:a.eval x=.slice (some ⟨bb,0,none⟩) 1 c2) (hB:B<=W.heap.size) (hown:W.ownsRow B e size v n xs)
  (hb:W.heap[bb]? =some (.cells ys.toArray e)) (hl:ys.length=size) (h1:∀u∈ys,u.oneCell'=true) (h63:n+1<=maxLen) (hbytes:(n+1)* bytes<=140737488355328)
  (h:∀g cap W',W'.ownsRow B e size (.slice (some ⟨g,0,none⟩) (n+1) cap) (n+1) (xs++ys)->W.grownBy W' v.ownBlock->(v.ownBlock=some g∨g=W.heap.size)->wpList P ops Q rest (a.put o.dst (.slice (some ⟨g,0,none⟩) (n+1) cap)) W'):wpList P ops Q (o ::rest) a W:=by
 obtain ⟨i0,hi,hz0,hz1,hz2⟩:=info_parts hinfo;refine wpList_append_own_at W hgd s x t ho B e i0 z size bytes ht hi hz0 hz1 hz2 hzs hsz v n xs hs hown ⟨bb,0,none⟩ 1 c2 ys hx (by omega) (λj u hu=>World.news_of_block hb j u (by simpa using hu)) h1 h63 hbytes hB (λv' W' h2 h3 h4 h5=>?_);rcases h2.2 with ⟨e1,e2⟩ | ⟨g,cap,cur,rfl,-⟩
 .omega
 .refine h g cap W' h2 h3 ?_
  rcases h5 with h5 | h5
  .exact .inl h5.symm
  .exact .inr (Option.some.inj h5)
theorem zz34 {P:Prop} (h:P:=by
 clear hc
 by_cases g:M < (wx:Int)
 .go_wp2_with fail
  refine HC.out.mono ?_;rintro e w1 ⟨rfl,b1⟩;rw [dL (by omega)];go_wp2_with fail;go_ret;exact ⟨by rw [dL (by have:=iZ.out;omega)];rfl,hB.out.trans (b1.mono bM.out)⟩
 .go_wp2_with fail
  refine HC.out.mono ?_;rintro e w1 ⟨rfl,b1⟩;rw [gZ (by omega)];have HB1:=hide b1;clear b1;go_wp2_with fail;go_roundw
  case rel=>exact ⟨M - wx,i+1,q,by go_num,by go_num,by omega,by omega,by omega,(by show _<=_;have:=HZ1.out;simp only [Fo.size] at this ⊢;omega),(by show (_:Int)=_;have:=iZ.out;omega),HR1.out.below HB1.out (by have:=bM.out;omega),hB.out.trans (HB1.out.mono bM.out)⟩
  case measure=>simp [intOf];omega):P:=h
theorem zz58 {P:Prop} (h:P:=by
 have HE:=hMe.out;simp only [Fo.wt] at HE;have iZ:=hide HE;clear HE hMe hR hrs;go_wp2_with fail;go_ret;exact ⟨by rw [gZ (by have:=iZ.out;omega)];exact gH (by have:=iZ.out;omega),hB.out⟩):P:=h
theorem zz112 {P:Prop} (h:P:=by
 go_wp2_with fail;go_ret;exact ⟨by rw [dL (by omega)];rfl,Below.refl _ _⟩):P:=h
theorem zz174 {P:Prop} (h:P:=by
 go_wp2_with fail;go_ret;exact ⟨by rw [dL (by omega)];rfl,B1.out⟩):P:=h
theorem zz209 {P:Prop} (h:P:=by
 go_wp2_with fail;go_ret;exact ⟨by rw [dL (by have:=fE.out;have:=dZ.out;omega)];rfl,B2.out⟩):P:=h
theorem xO:∀(n:Nat) (F:Fo),Fit E F (rep (E 0) n)->F.wt=0
 | 0,F,h=>by rw [ai h];rfl
 | n+1,F,h=>by
  obtain ⟨x,r,rfl,-,hr⟩:=jy h;simp only [Fo.wt,bU,xO n r hr]
theorem BL (m:Nat):Fy Tryz.prog E 38 (E 0) m:=by
 intro F n nb left W a cap hm hf hn h0 h1 hs;have hmx:n<=9223372036854775807:=by have h2:=hs.1;have h3:=hs.2.1;simp only [maxLen] at h3;omega
 have hw:=xO n F hf
 by_cases hlt:left < n
 .go_enter Tryz.func38,Tryz.ntmps38
  exact zz112
 .go_enter Tryz.func38,Tryz.ntmps38
  go_wp2_with fail;go_ret;exact ⟨by rw [gZ (by omega)];exact gH (by omega),Below.refl _ _⟩
theorem LH (m:Nat):Ay Tryz.prog E 11 [.b,.s 0] m:=by
 intro F nb left W hm hf hn h0 h1 hs;obtain ⟨x0,F0,rfl,hf⟩:=dE hf;obtain ⟨a1,n1,c1,k1,F1,rfl,hf1,hf⟩:=ay hf;obtain rfl:=ai hf;obtain ⟨hs1,-⟩:=hs;simp only [Fo.size] at hm;simp only [Fo.vals,Fo.wt,bU];have bA:=below_alloc1 W (.cells #[.bool x0,.slice a1 n1 c1] 24);have zA:(W.alloc (.cells #[.bool x0,.slice a1 n1 c1] 24)).heap.size=W.heap.size+1:=by simp
 have nE:Hid (Fo.Sub W (λc=>c < nb) a1 n1 c1 k1):=hs1;have Q0:=hide (Bx.new W [.bool x0,.slice a1 n1 c1] 24);clear hs1;have tL:=hide bA;have HzA:=hide zA;clear bA zA;go_enter Tryz.func11,Tryz.ntmps11;go_wp2_with fail;have fQ:=BL m k1 n1 nb (left) (W.alloc (.cells #[.bool x0,.slice a1 n1 c1] 24)) a1 c1 (by omega) hf1 (by have:=tL.out.size;omega) (by omega) (by omega) (nE.out.below tL.out (λc hc=>by omega));refine fQ.mono ?_;clear fQ;rintro e w1 ⟨rfl,b1⟩;have B1:=hide (tL.out.trans (b1.mono tL.out.size));have Q1:=hide (Q0.out.below b1);clear b1
 by_cases g1:left < (((n1+k1.wt):Nat):Int)
 .rw [dL (by omega)]
  exact zz174
 rw [gZ (by omega)];obtain ⟨L1,hL1⟩:∃L:Int,left - (((n1+k1.wt):Nat):Int)=L:=⟨_,rfl⟩
 rw [hL1];have fE:=hide hL1;have dZ:=hide g1;have hp1:0<=L1∧L1<=1048576:=by omega
 clear hL1 g1;go_wp2_with fail;go_ret;exact ⟨by rw [gZ (by have:=fE.out;have:=dZ.out;omega)];exact gH (by have:=fE.out;have:=dZ.out;omega),B1.out⟩
theorem tY (m:Nat):Fy Tryz.prog E 12 (E 1) m:=by
 intro F n nb left W a cap hm hf hn h0 h1 hs;have hmx:n<=9223372036854775807:=by have h2:=hs.1;have h3:=hs.2.1;simp only [maxLen] at h3;omega
 by_cases hlt:left < n
 .go_enter Tryz.func12,Tryz.ntmps12
  exact zz112
 .have HR:=hide (Rd.start hf hs)
  have HM:=hide hm;clear hf hs hm;go_enter Tryz.func12,Tryz.ntmps12;go_wp2_with fail
  go_loopw [1,5] (λs1 s5 wr=>∃(M:Int) (i:Nat) (r:Fo),s1=.int .i64 M∧s5=.int .i64 i∧0<=M∧M<=1048576∧i<=n∧Hid (r.size<=F.size)∧Hid (M+n+F.wt=left+r.wt)∧Hid (Rd E (E 1) n nb a i r wr)∧Hid (Below W.heap.size W wr)) (λ_ s5 _=>n - (intOf s5).toNat)
  case atStart=>exact ⟨left - n,0,F,rfl,rfl,by omega,by omega,Nat.zero_le _,Nat.le_refl _,(by show (_:Int)=_;omega),HR,Below.refl _ _⟩
  case round=>
   obtain ⟨M,i,r,rfl,rfl,hM0,hM1,hin,hrs,hMe,hR,hB⟩:=hrel
   by_cases hi:i < n
   .obtain ⟨x,q,b,o,rfl,hx,rfl,hb,hc,hxs,dx⟩:=hR.out.next hi (by decide)
    have HR1:=hide dx;have HE:=hMe.out;have HZ:=hrs.out;rw [Fo.aM] at HZ;rw [Fo.dN] at HE;have hbz:=hB.out.size;have hii:(i:Int) < n:=by omega
    clear hR hMe hrs dx;replace hx:Fit E x [.t]:=hx;obtain ⟨x0,F0,rfl,hx0,hx⟩:=aU hx;obtain rfl:=ai hx;have p0:wr.cell? ⟨b,o+i * 1,none⟩=some (.string x0):=hc 0 _ rfl;rw [Nat.mul_one] at p0;have hy0:x0.size<=9223372036854775807:=by simp only [maxLen] at hx0;omega
    simp only [Fo.wt,bU] at HE;simp only [Fo.size] at HZ;have iZ:=hide HE;have HZ1:=hide HZ;have bM:=hide hbz;clear HE HZ hxs hc hbz
    by_cases g:M < (x0.size:Int)
    .go_wp2_with fail
     go_ret;exact ⟨by rw [dL (by have:=iZ.out;omega)];rfl,hB.out⟩
    .go_wp2_with fail
     go_roundw
     case rel=>exact ⟨M - x0.size,i+1,q,by go_num,by go_num,by omega,by omega,by omega,(by show _<=_;have:=HZ1.out;omega),(by show (_:Int)=_;have:=iZ.out;omega),HR1.out,hB.out⟩
     case measure=>simp [intOf];omega
   .obtain ⟨rfl,rfl⟩:=hR.out.done hi
    exact zz58
theorem BM (m:Nat) (vz:Ay Tryz.prog E 4 (E 3) m):Ay Tryz.prog E 39 (E 2) m:=by
 intro F nb left W hm hf hn h0 h1 hs;replace hf:Fit E F [.t,.s 1,.i,.t,.b,.s 0,.s 1,.s 3,.s 2]:=hf;obtain ⟨x0,F0,rfl,hx0,hf⟩:=aU hf;obtain ⟨a1,n1,c1,k1,F1,rfl,hf1,hf⟩:=ay hf;obtain ⟨x2,F2,rfl,hx2,hf⟩:=eu hf;obtain ⟨x3,F3,rfl,hx3,hf⟩:=aU hf;obtain ⟨x4,F4,rfl,hf⟩:=dE hf;obtain ⟨a5,n5,c5,k5,F5,rfl,jg,hf⟩:=ay hf;obtain ⟨a6,n6,c6,k6,F6,rfl,jB,hf⟩:=ay hf;obtain ⟨a7,n7,c7,k7,F7,rfl,xR,hf⟩:=ay hf;obtain ⟨a8,n8,c8,k8,F8,rfl,xS,hf⟩:=ay hf;obtain rfl:=ai hf;obtain ⟨hs1,hs5,hs6,hs7,ug,-⟩:=hs;simp only [Fo.size] at hm;simp only [Fo.vals,Fo.wt,bU];have hy0:x0.size<=9223372036854775807:=by simp only [maxLen] at hx0;omega
 have hy3:x3.size<=9223372036854775807:=by simp only [maxLen] at hx3;omega
 have bA:=below_alloc1 W (.cells #[.string x0,.slice a1 n1 c1,.int .i64 x2,.string x3,.bool x4,.slice a5 n5 c5,.slice a6 n6 c6,.slice a7 n7 c7,.slice a8 n8 c8] 66);have zA:(W.alloc (.cells #[.string x0,.slice a1 n1 c1,.int .i64 x2,.string x3,.bool x4,.slice a5 n5 c5,.slice a6 n6 c6,.slice a7 n7 c7,.slice a8 n8 c8] 66)).heap.size=W.heap.size+1:=by simp
 have nE:Hid (Fo.Sub W (λc=>c < nb) a1 n1 c1 k1):=hs1;have oC:Hid (Fo.Sub W (λc=>c < nb) a5 n5 c5 k5):=hs5;have oD:Hid (Fo.Sub W (λc=>c < nb) a6 n6 c6 k6):=hs6;have CP:Hid (Fo.Sub W (λc=>c < nb) a7 n7 c7 k7):=hs7;have Ho:Hid (Fo.Sub W (λc=>c < nb) a8 n8 c8 k8):=ug;have Q0:=hide (Bx.new W [.string x0,.slice a1 n1 c1,.int .i64 x2,.string x3,.bool x4,.slice a5 n5 c5,.slice a6 n6 c6,.slice a7 n7 c7,.slice a8 n8 c8] 66);clear hs1 hs5 hs6 hs7 ug;have tL:=hide bA;have HzA:=hide zA;clear bA zA;go_enter Tryz.func39,Tryz.ntmps39
 by_cases g0:left < (x0.size:Int)
 .go_wp2_with fail
  go_ret;exact ⟨by rw [dL (by omega)];rfl,tL.out⟩
 go_wp2_with fail;have fQ:=tY m k1 n1 nb (left - (x0.size:Int)) (W.alloc (.cells #[.string x0,.slice a1 n1 c1,.int .i64 x2,.string x3,.bool x4,.slice a5 n5 c5,.slice a6 n6 c6,.slice a7 n7 c7,.slice a8 n8 c8] 66)) a1 c1 (by omega) hf1 (by have:=tL.out.size;omega) (by omega) (by omega) (nE.out.below tL.out (λc hc=>by omega));refine fQ.mono ?_;clear fQ;rintro e w1 ⟨rfl,b1⟩;have B1:=hide (tL.out.trans (b1.mono tL.out.size));have Q1:=hide (Q0.out.below b1);clear b1
 by_cases g1:left - (x0.size:Int) < (((n1+k1.wt):Nat):Int)
 .rw [dL (by omega)]
  exact zz174
 rw [gZ (by omega)];obtain ⟨L1,hL1⟩:∃L:Int,left - (x0.size:Int) - (((n1+k1.wt):Nat):Int)=L:=⟨_,rfl⟩
 rw [hL1];have fE:=hide hL1;have dZ:=hide g1;have hp1:0<=L1∧L1<=1048576:=by omega
 clear hL1 g1;have XK:w1.cell? ⟨W.heap.size,2,none⟩=some (.int .i64 x2):=Q1.out.ae 2 _ rfl;have y13:w1.cell? ⟨W.heap.size,3,none⟩=some (.string x3):=Q1.out.ae 3 _ rfl;have Gq:w1.cell? ⟨W.heap.size,4,none⟩=some (.bool x4):=Q1.out.ae 4 _ rfl;have Gs:w1.cell? ⟨W.heap.size,5,none⟩=some (.slice a5 n5 c5):=Q1.out.ae 5 _ rfl;have Gt:w1.cell? ⟨W.heap.size,6,none⟩=some (.slice a6 n6 c6):=Q1.out.ae 6 _ rfl;have XL:w1.cell? ⟨W.heap.size,7,none⟩=some (.slice a7 n7 c7):=Q1.out.ae 7 _ rfl;have XM:w1.cell? ⟨W.heap.size,8,none⟩=some (.slice a8 n8 c8):=Q1.out.ae 8 _ rfl;go_wp2_with fail
 have iJ:=vz (.v (.int .i64 x2) (.v (.string x3) (.v (.bool x4) (.s a5 n5 c5 k5 (.s a6 n6 c6 k6 (.s a7 n7 c7 k7 (.s a8 n8 c8 k8 .nil))))))) nb (L1) w1 (by simp only [Fo.size];omega) ⟨hx2,hx3,jg,jB,xR,xS,trivial⟩ (by have:=B1.out.size;omega) (by have:=fE.out;have:=dZ.out;omega) (by have:=fE.out;have:=dZ.out;omega) ⟨(oC.out.below B1.out (λc hc=>by omega)),(oD.out.below B1.out (λc hc=>by omega)),(CP.out.below B1.out (λc hc=>by omega)),(Ho.out.below B1.out (λc hc=>by omega)),trivial⟩;simp only [Fo.vals,Fo.wt,bU] at iJ;refine iJ.mono ?_;clear iJ;rintro e w2 ⟨rfl,b2⟩;have B2:=hide (B1.out.trans (b2.mono B1.out.size));have Q2:=hide (Q1.out.below b2);clear b2
 by_cases g2:L1 < ((0+(x3.size+(0+(n5+k5.wt+(n6+k6.wt+(n7+k7.wt+(n8+k8.wt+(0))))))):Nat):Int)
 .rw [dL (by have:=fE.out;have:=dZ.out;omega)]
  exact zz209
 rw [gZ (by have:=fE.out;have:=dZ.out;omega)];obtain ⟨L2,hL2⟩:∃L:Int,L1 - ((0+(x3.size+(0+(n5+k5.wt+(n6+k6.wt+(n7+k7.wt+(n8+k8.wt+(0))))))):Nat):Int)=L:=⟨_,rfl⟩
 rw [hL2];have HL2:=hide hL2;have jE:=hide g2;have hp2:0<=L2∧L2<=1048576:=by have:=fE.out;have:=dZ.out;omega
 clear hL2 g2;go_wp2_with fail;go_ret;exact ⟨by rw [gZ (by have:=fE.out;have:=dZ.out;have:=HL2.out;have:=jE.out;omega)];exact gH (by have:=fE.out;have:=dZ.out;have:=HL2.out;have:=jE.out;omega),B2.out⟩
theorem oQ (m:Nat) (h:Ay Tryz.prog E 39 (E 2) m):Fy Tryz.prog E 14 (E 2) m:=by
 intro F n nb left W a cap hm hf hn h0 h1 hs;have hmx:n<=9223372036854775807:=by have h2:=hs.1;have h3:=hs.2.1;simp only [maxLen] at h3;omega
 by_cases hlt:left < n
 .go_enter Tryz.func14,Tryz.ntmps14
  exact zz112
 .have HR:=hide (Rd.start hf hs)
  have HM:=hide hm;clear hf hs hm;go_enter Tryz.func14,Tryz.ntmps14;go_wp2_with fail
  go_loopw [1,5] (λs1 s5 wr=>∃(M:Int) (i:Nat) (r:Fo),s1=.int .i64 M∧s5=.int .i64 i∧0<=M∧M<=1048576∧i<=n∧Hid (r.size<=F.size)∧Hid (M+n+F.wt=left+r.wt)∧Hid (Rd E (E 2) n nb a i r wr)∧Hid (Below W.heap.size W wr)) (λ_ s5 _=>n - (intOf s5).toNat)
  case atStart=>exact ⟨left - n,0,F,rfl,rfl,by omega,by omega,Nat.zero_le _,Nat.le_refl _,(by show (_:Int)=_;omega),HR,Below.refl _ _⟩
  case round=>
   obtain ⟨M,i,r,rfl,rfl,hM0,hM1,hin,hrs,hMe,hR,hB⟩:=hrel
   by_cases hi:i < n
   .obtain ⟨x,q,b,o,rfl,hx,rfl,hb,hc,hxs,dx⟩:=hR.out.next hi (by decide)
    have HR1:=hide dx;have HE:=hMe.out;have HZ:=hrs.out;rw [Fo.aM] at HZ;rw [Fo.dN] at HE;have hbz:=hB.out.size;have hii:(i:Int) < n:=by omega
    clear hR hMe hrs dx;have HC:=hide (h x nb M wr (by have:=HM.out;omega) hx (by omega) hM0 hM1 hxs);obtain ⟨wx,hwx⟩:∃wx,x.wt=wx:=⟨_,rfl⟩
    rw [hwx] at HE HC;have iZ:=hide HE;have HZ1:=hide HZ;have bM:=hide hbz;clear hwx HE HZ hxs hbz;replace hx:Fit E x [.t,.s 1,.i,.t,.b,.s 0,.s 1,.s 3,.s 2]:=hx;obtain ⟨x0,F0,rfl,hx0,hx⟩:=aU hx;obtain ⟨a1,n1,c1,k1,F1,rfl,hf1,hx⟩:=ay hx;obtain ⟨x2,F2,rfl,hx2,hx⟩:=eu hx;obtain ⟨x3,F3,rfl,hx3,hx⟩:=aU hx;obtain ⟨x4,F4,rfl,hx⟩:=dE hx;obtain ⟨a5,n5,c5,k5,F5,rfl,jg,hx⟩:=ay hx;obtain ⟨a6,n6,c6,k6,F6,rfl,jB,hx⟩:=ay hx;obtain ⟨a7,n7,c7,k7,F7,rfl,xR,hx⟩:=ay hx;obtain ⟨a8,n8,c8,k8,F8,rfl,xS,hx⟩:=ay hx;obtain rfl:=ai hx;simp only [Fo.vals] at HC hc;have p0:wr.cell? ⟨b,o+i * 9,none⟩=some (.string x0):=hc 0 _ rfl;have p1:wr.cell? ⟨b,o+i * 9+1,none⟩=some (.slice a1 n1 c1):=hc 1 _ rfl;have p2:wr.cell? ⟨b,o+i * 9+2,none⟩=some (.int .i64 x2):=hc 2 _ rfl;have p3:wr.cell? ⟨b,o+i * 9+3,none⟩=some (.string x3):=hc 3 _ rfl;have p4:wr.cell? ⟨b,o+i * 9+4,none⟩=some (.bool x4):=hc 4 _ rfl
    have p5:wr.cell? ⟨b,o+i * 9+5,none⟩=some (.slice a5 n5 c5):=hc 5 _ rfl;have p6:wr.cell? ⟨b,o+i * 9+6,none⟩=some (.slice a6 n6 c6):=hc 6 _ rfl;have p7:wr.cell? ⟨b,o+i * 9+7,none⟩=some (.slice a7 n7 c7):=hc 7 _ rfl;have p8:wr.cell? ⟨b,o+i * 9+8,none⟩=some (.slice a8 n8 c8):=hc 8 _ rfl;exact zz34
   .obtain ⟨rfl,rfl⟩:=hR.out.done hi
    exact zz58
theorem Jb (m:Nat) (lh:Fy Tryz.prog E 13 (E 3) m) (gB:Fy Tryz.prog E 14 (E 2) m):Ay Tryz.prog E 4 (E 3) (m+1):=by
 intro F nb left W hm hf hn h0 h1 hs;replace hf:Fit E F [.i,.t,.b,.s 0,.s 1,.s 3,.s 2]:=hf;obtain ⟨x0,F0,rfl,hx0,hf⟩:=eu hf;obtain ⟨x1,F1,rfl,hx1,hf⟩:=aU hf;obtain ⟨x2,F2,rfl,hf⟩:=dE hf;obtain ⟨a3,n3,c3,k3,F3,rfl,hf3,hf⟩:=ay hf;obtain ⟨a4,n4,c4,k4,F4,rfl,sQ,hf⟩:=ay hf;obtain ⟨a5,n5,c5,k5,F5,rfl,jg,hf⟩:=ay hf;obtain ⟨a6,n6,c6,k6,F6,rfl,jB,hf⟩:=ay hf;obtain rfl:=ai hf;obtain ⟨hs3,hs4,hs5,hs6,-⟩:=hs;simp only [Fo.size] at hm;simp only [Fo.vals,Fo.wt,bU];have hy1:x1.size<=9223372036854775807:=by simp only [maxLen] at hx1;omega
 have bA:=below_alloc1 W (.cells #[.int .i64 x0,.string x1,.bool x2,.slice a3 n3 c3,.slice a4 n4 c4,.slice a5 n5 c5,.slice a6 n6 c6] 29);have zA:(W.alloc (.cells #[.int .i64 x0,.string x1,.bool x2,.slice a3 n3 c3,.slice a4 n4 c4,.slice a5 n5 c5,.slice a6 n6 c6] 29)).heap.size=W.heap.size+1:=by simp
 have uB:Hid (Fo.Sub W (λc=>c < nb) a3 n3 c3 k3):=hs3;have CQ:Hid (Fo.Sub W (λc=>c < nb) a4 n4 c4 k4):=hs4;have oC:Hid (Fo.Sub W (λc=>c < nb) a5 n5 c5 k5):=hs5;have oD:Hid (Fo.Sub W (λc=>c < nb) a6 n6 c6 k6):=hs6;have Q0:=hide (Bx.new W [.int .i64 x0,.string x1,.bool x2,.slice a3 n3 c3,.slice a4 n4 c4,.slice a5 n5 c5,.slice a6 n6 c6] 29);clear hs3 hs4 hs5 hs6;have tL:=hide bA;have HzA:=hide zA;clear bA zA;go_enter Tryz.func4,Tryz.ntmps4
 by_cases g1:left < (x1.size:Int)
 .go_wp2_with fail
  go_ret;exact ⟨by rw [dL (by omega)];rfl,tL.out⟩
 go_wp2_with fail;have fQ:=LH m (.v (.bool x2) (.s a3 n3 c3 k3 .nil)) nb (left - (x1.size:Int)) (W.alloc (.cells #[.int .i64 x0,.string x1,.bool x2,.slice a3 n3 c3,.slice a4 n4 c4,.slice a5 n5 c5,.slice a6 n6 c6] 29)) (by simp only [Fo.size];omega) ⟨hf3,trivial⟩ (by have:=tL.out.size;omega) (by omega) (by omega) ⟨(uB.out.below tL.out (λc hc=>by omega)),trivial⟩;simp only [Fo.vals,Fo.wt,bU] at fQ;refine fQ.mono ?_;clear fQ;rintro e w1 ⟨rfl,b1⟩;have B1:=hide (tL.out.trans (b1.mono tL.out.size));have Q1:=hide (Q0.out.below b1);clear b1
 by_cases g2:left - (x1.size:Int) < ((0+(n3+k3.wt+(0)):Nat):Int)
 .rw [dL (by omega)]
  exact zz174
 rw [gZ (by omega)];obtain ⟨L1,hL1⟩:∃L:Int,left - (x1.size:Int) - ((0+(n3+k3.wt+(0)):Nat):Int)=L:=⟨_,rfl⟩
 rw [hL1];have fE:=hide hL1;have dZ:=hide g2;have hp1:0<=L1∧L1<=1048576:=by omega
 clear hL1 g2;have Gq:w1.cell? ⟨W.heap.size,4,none⟩=some (.slice a4 n4 c4):=Q1.out.ae 4 _ rfl;have Gs:w1.cell? ⟨W.heap.size,5,none⟩=some (.slice a5 n5 c5):=Q1.out.ae 5 _ rfl;have Gt:w1.cell? ⟨W.heap.size,6,none⟩=some (.slice a6 n6 c6):=Q1.out.ae 6 _ rfl;go_wp2_with fail;have iJ:=tY m k4 n4 nb (L1) w1 a4 c4 (by omega) sQ (by have:=B1.out.size;omega) (by have:=fE.out;have:=dZ.out;omega) (by have:=fE.out;have:=dZ.out;omega) (CQ.out.below B1.out (λc hc=>by omega));refine iJ.mono ?_;clear iJ;rintro e w2 ⟨rfl,b2⟩;have B2:=hide (B1.out.trans (b2.mono B1.out.size));have Q2:=hide (Q1.out.below b2);clear b2
 by_cases g4:L1 < (((n4+k4.wt):Nat):Int)
 .rw [dL (by have:=fE.out;have:=dZ.out;omega)]
  exact zz209
 rw [gZ (by have:=fE.out;have:=dZ.out;omega)];obtain ⟨L2,hL2⟩:∃L:Int,L1 - (((n4+k4.wt):Nat):Int)=L:=⟨_,rfl⟩
 rw [hL2];have HL2:=hide hL2;have jE:=hide g4;have hp2:0<=L2∧L2<=1048576:=by have:=fE.out;have:=dZ.out;omega
 clear hL2 g4;have y25:w2.cell? ⟨W.heap.size,5,none⟩=some (.slice a5 n5 c5):=Q2.out.ae 5 _ rfl;have Qt:w2.cell? ⟨W.heap.size,6,none⟩=some (.slice a6 n6 c6):=Q2.out.ae 6 _ rfl;go_wp2_with fail;have mK:=lh k5 n5 nb (L2) w2 a5 c5 (by omega) jg (by have:=B2.out.size;omega) (by have:=fE.out;have:=dZ.out;have:=HL2.out;have:=jE.out;omega) (by have:=fE.out;have:=dZ.out;have:=HL2.out;have:=jE.out;omega) (oC.out.below B2.out (λc hc=>by omega));refine mK.mono ?_;clear mK;rintro e w3 ⟨rfl,b3⟩;have B3:=hide (B2.out.trans (b3.mono B2.out.size));have Q3:=hide (Q2.out.below b3);clear b3
 by_cases g5:L2 < (((n5+k5.wt):Nat):Int)
 .rw [dL (by have:=fE.out;have:=dZ.out;have:=HL2.out;have:=jE.out;omega)]
  go_wp2_with fail;go_ret;exact ⟨by rw [dL (by have:=fE.out;have:=dZ.out;have:=HL2.out;have:=jE.out;omega)];rfl,B3.out⟩
 rw [gZ (by have:=fE.out;have:=dZ.out;have:=HL2.out;have:=jE.out;omega)];obtain ⟨L3,hL3⟩:∃L:Int,L2 - (((n5+k5.wt):Nat):Int)=L:=⟨_,rfl⟩
 rw [hL3];have wM:=hide hL3;have ou:=hide g5;have hp3:0<=L3∧L3<=1048576:=by have:=fE.out;have:=dZ.out;have:=HL2.out;have:=jE.out;omega
 clear hL3 g5;have Qu:w3.cell? ⟨W.heap.size,6,none⟩=some (.slice a6 n6 c6):=Q3.out.ae 6 _ rfl;go_wp2_with fail;have uU:=gB k6 n6 nb (L3) w3 a6 c6 (by omega) jB (by have:=B3.out.size;omega) (by have:=fE.out;have:=dZ.out;have:=HL2.out;have:=jE.out;have:=wM.out;have:=ou.out;omega) (by have:=fE.out;have:=dZ.out;have:=HL2.out;have:=jE.out;have:=wM.out;have:=ou.out;omega) (oD.out.below B3.out (λc hc=>by omega));refine uU.mono ?_;clear uU;rintro e w4 ⟨rfl,b4⟩;have B4:=hide (B3.out.trans (b4.mono B3.out.size));have Q4:=hide (Q3.out.below b4);clear b4
 by_cases g6:L3 < (((n6+k6.wt):Nat):Int)
 .rw [dL (by have:=fE.out;have:=dZ.out;have:=HL2.out;have:=jE.out;have:=wM.out;have:=ou.out;omega)]
  go_wp2_with fail;go_ret;exact ⟨by rw [dL (by have:=fE.out;have:=dZ.out;have:=HL2.out;have:=jE.out;have:=wM.out;have:=ou.out;omega)];rfl,B4.out⟩
 rw [gZ (by have:=fE.out;have:=dZ.out;have:=HL2.out;have:=jE.out;have:=wM.out;have:=ou.out;omega)];obtain ⟨L4,hL4⟩:∃L:Int,L3 - (((n6+k6.wt):Nat):Int)=L:=⟨_,rfl⟩
 rw [hL4];have H7:=hide hL4;have Gu:=hide g6;have hp4:0<=L4∧L4<=1048576:=by have:=fE.out;have:=dZ.out;have:=HL2.out;have:=jE.out;have:=wM.out;have:=ou.out;omega
 clear hL4 g6;go_wp2_with fail;go_ret;exact ⟨by rw [gZ (by have:=fE.out;have:=dZ.out;have:=HL2.out;have:=jE.out;have:=wM.out;have:=ou.out;have:=H7.out;have:=Gu.out;omega)];exact gH (by have:=fE.out;have:=dZ.out;have:=HL2.out;have:=jE.out;have:=wM.out;have:=ou.out;have:=H7.out;have:=Gu.out;omega),B4.out⟩
theorem sI (m:Nat) (h:Ay Tryz.prog E 4 (E 3) m):Fy Tryz.prog E 13 (E 3) m:=by
 intro F n nb left W a cap hm hf hn h0 h1 hs;have hmx:n<=9223372036854775807:=by have h2:=hs.1;have h3:=hs.2.1;simp only [maxLen] at h3;omega
 by_cases hlt:left < n
 .go_enter Tryz.func13,Tryz.ntmps13
  exact zz112
 .have HR:=hide (Rd.start hf hs)
  have HM:=hide hm;clear hf hs hm;go_enter Tryz.func13,Tryz.ntmps13;go_wp2_with fail
  go_loopw [1,5] (λs1 s5 wr=>∃(M:Int) (i:Nat) (r:Fo),s1=.int .i64 M∧s5=.int .i64 i∧0<=M∧M<=1048576∧i<=n∧Hid (r.size<=F.size)∧Hid (M+n+F.wt=left+r.wt)∧Hid (Rd E (E 3) n nb a i r wr)∧Hid (Below W.heap.size W wr)) (λ_ s5 _=>n - (intOf s5).toNat)
  case atStart=>exact ⟨left - n,0,F,rfl,rfl,by omega,by omega,Nat.zero_le _,Nat.le_refl _,(by show (_:Int)=_;omega),HR,Below.refl _ _⟩
  case round=>
   obtain ⟨M,i,r,rfl,rfl,hM0,hM1,hin,hrs,hMe,hR,hB⟩:=hrel
   by_cases hi:i < n
   .obtain ⟨x,q,b,o,rfl,hx,rfl,hb,hc,hxs,dx⟩:=hR.out.next hi (by decide)
    have HR1:=hide dx;have HE:=hMe.out;have HZ:=hrs.out;rw [Fo.aM] at HZ;rw [Fo.dN] at HE;have hbz:=hB.out.size;have hii:(i:Int) < n:=by omega
    clear hR hMe hrs dx;have HC:=hide (h x nb M wr (by have:=HM.out;omega) hx (by omega) hM0 hM1 hxs);obtain ⟨wx,hwx⟩:∃wx,x.wt=wx:=⟨_,rfl⟩
    rw [hwx] at HE HC;have iZ:=hide HE;have HZ1:=hide HZ;have bM:=hide hbz;clear hwx HE HZ hxs hbz;replace hx:Fit E x [.i,.t,.b,.s 0,.s 1,.s 3,.s 2]:=hx;obtain ⟨x0,F0,rfl,hx0,hx⟩:=eu hx;obtain ⟨x1,F1,rfl,hx1,hx⟩:=aU hx;obtain ⟨x2,F2,rfl,hx⟩:=dE hx;obtain ⟨a3,n3,c3,k3,F3,rfl,hf3,hx⟩:=ay hx;obtain ⟨a4,n4,c4,k4,F4,rfl,sQ,hx⟩:=ay hx;obtain ⟨a5,n5,c5,k5,F5,rfl,jg,hx⟩:=ay hx;obtain ⟨a6,n6,c6,k6,F6,rfl,jB,hx⟩:=ay hx;obtain rfl:=ai hx;simp only [Fo.vals] at HC hc;have p0:wr.cell? ⟨b,o+i * 7,none⟩=some (.int .i64 x0):=hc 0 _ rfl;have p1:wr.cell? ⟨b,o+i * 7+1,none⟩=some (.string x1):=hc 1 _ rfl;have p2:wr.cell? ⟨b,o+i * 7+2,none⟩=some (.bool x2):=hc 2 _ rfl;have p3:wr.cell? ⟨b,o+i * 7+3,none⟩=some (.slice a3 n3 c3):=hc 3 _ rfl;have p4:wr.cell? ⟨b,o+i * 7+4,none⟩=some (.slice a4 n4 c4):=hc 4 _ rfl;have p5:wr.cell? ⟨b,o+i * 7+5,none⟩=some (.slice a5 n5 c5):=hc 5 _ rfl
    have p6:wr.cell? ⟨b,o+i * 7+6,none⟩=some (.slice a6 n6 c6):=hc 6 _ rfl;exact zz34
   .obtain ⟨rfl,rfl⟩:=hR.out.done hi
    exact zz58
theorem oU:∀m:Nat,(Ay Tryz.prog E 39 (E 2) m∧Fy Tryz.prog E 14 (E 2) m)∧(Ay Tryz.prog E 4 (E 3) m∧Fy Tryz.prog E 13 (E 3) m)
 | 0=>by
  have eF:Ay Tryz.prog E 39 (E 2) 0:=(λF _ _ _ hm hf=>absurd (Fit.len hf) (by have:=F.fJ;show ¬F.len=9;omega))
  have iF:=oQ 0 eF;have iG:Ay Tryz.prog E 4 (E 3) 0:=(λF _ _ _ hm hf=>absurd (Fit.len hf) (by have:=F.fJ;show ¬F.len=7;omega))
  have nQ:=sI 0 iG;exact ⟨⟨eF,iF⟩,⟨iG,nQ⟩⟩
 | m+1=>by
  have ih:=oU m;have iG:=Jb m ih.2.2 ih.1.2;have nQ:=sI (m+1) iG;have eF:=BM (m+1) iG;have iF:=oQ (m+1) eF;exact ⟨⟨eF,iF⟩,⟨iG,nQ⟩⟩
theorem zl (m:Nat):Ay Tryz.prog E 4 (E 3) m:=(oU m).2.1
open Go.RowKit Go.Shelf
theorem Kept.putObj (S:Nat->Prop) (A:World) (l:Nat) (o:Obj) (h:¬S l):Kept S A (A.putObj l o):=
 ⟨rfl,rfl,rfl,by simp,λk _ hs=>World.putObj_heap_other (λe=>h (e▸hs))⟩
def NB (W:World) (b:Nat):Prop:=∃o,W.heap[b]? =some o∧∀c fz,o≠.cells c 5 fz
theorem NB.lt {W:World} {b:Nat} (h:NB W b):b < W.heap.size:=by
 obtain ⟨o,ho,_⟩:=h;exact (Array.getElem?_eq_some_iff.1 ho).1
theorem NB.kept {A B:World} {S:Nat->Prop} {b:Nat} (h:NB A b) (k:Kept S A B) (hb:S b):NB B b:=by
 obtain ⟨o,ho,hn⟩:=h;exact ⟨o,(k.block b (NB.lt ⟨o,ho,hn⟩) hb).trans ho,hn⟩
theorem NB.cells {W:World} {b:Nat} {cs:Array Value} {t:TypeId} {fz:Nat×Nat} (h:W.heap[b]? =some (.cells cs t fz)) (ht:t≠5):NB W b:=
 ⟨_,h,λc f e=>by cases e;exact ht rfl⟩
theorem NB.new (W:World) (cs:Array Value) (t:TypeId) (ht:t≠5):NB (W.alloc (.cells cs t)) W.heap.size:=NB.cells (World.alloc_heap_new W _) ht
def tT (J:Nat->(Nat->Prop)->World->Prop):Prop:=
 ∀(k:Nat) (O O':Nat->Prop) (A B:World),J k O A->Kept (λb=>¬O b) A B->(∀b,O' b->O b∨A.heap.size<=b)->J k O' B
theorem tT.same {J:Nat->(Nat->Prop)->World->Prop} (h:tT J) {k:Nat} {O:Nat->Prop} {A B:World} (hj:J k O A) (hk:Kept (λb=>¬O b) A B):J k O B:=
 h k O O A B hj hk (λ_ x=>.inl x)
def Seq {P:Program} (F:Fence) (n:Nat) (g:Nat) (lb:Array Value) (encs:Nat->Array Value) (N:Nat) (Sb:Nat->Prop) (w:World):Prop:=
 ∀(l:Nat) (J Jx:Nat->(Nat->Prop)->World->Prop) (W:World),Below w.heap.size w W->tT J->tT Jx->
  (∀(k:Nat) (O:Nat->Prop) (W1:World),k < N->(∀b,O b->NB W1 b)->J k O W1->YieldAt F (n - 1) P l (encs k) W1 λe W'=>
   Kept (λb=>O b∨Sb b) W1 W'∧((e=.returned (.bool true)∧J (k+1) O W')∨(e=.returned (.bool false)∧Jx k O W')))->
  J 0 (λ_=>False) W->
  CallsIn F n P g (#[.func (.yield l) #[] #[]]++lb) W λe W'=>(∃v,e=.returned v)∧((∃O,J N O W')∨(∃k O,k < N∧Jx k O W'))
def BR (Sb:Nat->Prop) (I:Nat->(Nat->Prop)->World->Prop) (Ix:Code->Nat->(Nat->Prop)->World->Prop) (k:Nat) (O:Nat->Prop) (W:World):Exit->Act->World->Prop
 | .normal,_,W'=>Kept (λb=>O b∨Sb b) W W'∧I (k+1) O W'
 | .ret,_,W'=>Kept (λb=>O b∨Sb b) W W'∧Ix .ret k O W'
 | .exit id,_,W'=>Kept (λb=>O b∨Sb b) W W'∧Ix (.exit id) k O W'
 | .goto t,_,W'=>Kept (λb=>O b∨Sb b) W W'∧Ix (.goto t) k O W'
 | .panic _,_,_=>False
 | .outgrown,_,_=>False
theorem xI {F:Fence} {n:Nat} {P:Program} {g:Operand} {ps:Array Tmp} {assign body:Code} {Q:Exit->Act->World->Prop} {a:Act} {w:World}
  (hro:F.round=none) (h1:1<=n) {gf:Nat} {lb:Array Value} (hg:a.eval g=.func (.func gf) #[] lb) (hFg:F.fn gf)
  (eg:∀args w,(callFunc gf args).run P w=.ok (.enter gf args) w) {encs:Nat->Array Value} {N:Nat} {Sb:Nat->Prop} {w0:World}
  (hseq:Seq (P:=P) F (n - 1) gf lb encs N Sb w0) (hb0:Below w0.heap.size w0 w) (hn0:∀b,Sb b->b < w.heap.size) (hps:∀k,(encs k).size=ps.size)
  (I:Nat->(Nat->Prop)->World->Prop) (Ix:Code->Nat->(Nat->Prop)->World->Prop) (hI:tT I) (hIx:∀c,tT (Ix c)) (h0:I 0 (λ_=>False) w)
  (Ax:Nat->(Nat->Prop)->Act->World->Prop)
  (hassign:∀(l k:Nat) (O:Nat->Prop) (W:World) (K:Act->World->Prop),k < N->(∀b,O b->NB W b)->I k O W->(∀a' W',Kept (λ_=>True) W W'->I k O W'->Ax k O a' W'->K a' W')->
   assign.wpIn (F.inRound l) (n - 1 - 1) P (Exit.then K (λ_ _ _=>False)) {tmps:=(ps.zip (encs k)).foldl (λt (p,v)=>t.setIfInBounds p v) a.tmps,defers:=[]} W)
  (hbody:∀(l k:Nat) (O:Nat->Prop) (a':Act) (W1 W:World),k < N->Ax k O a' W1->Kept (λb=>¬O b) W1 W->(∀b,O b->NB W b)->I k O W->(∀b,O b->w.heap.size<=b)->
   body.wpIn (F.inRound l) (n - 1 - 1) P (BR Sb I Ix k O W) a' W)
  (hdone:∀(D:Nat) (O:Nat->Prop) (W:World),w.heap.size<=D->O D->(∀b,O b->w.heap.size<=b)->I N O W->W.heap[D]? =some (.deferred (some []))->Q .normal {a with defers:={target:=.collected D,args:=#[]}::a.defers} W)
  (hstop:∀(D:Nat) (c:Code) (k:Nat) (O:Nat->Prop) (W:World),w.heap.size<=D->O D->(∀b,O b->w.heap.size<=b)->k < N->Ix c k O W->W.heap[D]? =some (.deferred (some []))->
   c.wpIn F n P Q {a with defers:={target:=.collected D,args:=#[]}::a.defers} W):
  (Code.rangeFunc g ps assign body).wpIn F n P Q a w:=by
 refine wpIn_rangeFunc ?_;intro fn hfn;rw [hro];obtain ⟨D,hD⟩:∃D,w.heap.size=D:=⟨_,rfl⟩
 obtain ⟨rec,hrec⟩:∃rec:LoopState->Option Code->Loop,rec=λst pe=>{state:=st,pending:=pe,fn,tmps:=a.tmps,params:=ps,assign,body,defers:=D}:=⟨_,rfl⟩
 obtain ⟨W1,hW1⟩:∃W1,(w.alloc (.deferred (some []))).alloc (.loop (rec .ready none))=W1:=⟨_,rfl⟩
 have hL1:W1.heap[D+1]? =some (.loop (rec .ready none)):=by
  rw [<- hW1,<- hD]
  have:=World.alloc_heap_new (w.alloc (.deferred (some []))) (.loop (rec .ready none))
  rwa [World.size_alloc] at this
 have hK1:W1.heap[D]? =some (.deferred (some [])):=by
  rw [<- hW1,<- hD];exact (Below.heap_alloc _ _ _ (by simp)).trans (World.alloc_heap_new w _)
 have hkw:Kept (λb=>¬False) w W1:=by
  rw [<- hW1];exact (Kept.alloc _ _ _).trans (Kept.alloc _ _ _)
 have hI1:I 0 (λb=>False∨b=D∨b=D+1) W1:=hI _ _ _ _ _ h0 hkw (λb x=>.inr (by rcases x with x | x | x;exact x.elim;all_goals omega));have hb1:Below w0.heap.size w0 W1:=by
  rw [<- hW1];exact hb0.trans ((((Below.refl _ w).alloc (Nat.le_refl _) _).alloc (by simp) _).mono hb0.size)
 refine ⟨D+1,[{target:=.collected D,args:=#[]}],W1,{target:=.fn (.func gf) lb,args:=#[.func (.yield (D+1)) #[] #[]]},W1,gf,
    #[.func (.yield (D + 1)) #[] #[]] ++ lb, W1, ?_, ?_, ?_, ?_, λ_ => h1, ?_⟩
 .rw [<- hW1,hrec,<- hD];exact run_enterLoop_outer _ _ _ _ _
 .simp only [resolve,hg]
  simp [go_sem]
 .intro f' hf';simp [Target.leads] at hf';subst hf';exact hFg
 .simp [invoke,go_sem,eg]
 .refine (hseq (D+1)
   (λk O W=>I k (λb=>O b∨b=D∨b=D+1) W∧W.heap[D+1]? =some (.loop (rec .ready none))∧W.heap[D]? =some (.deferred (some []))∧∀b,O b->D+2<=b)
   (λk O W=>∃c,Ix c k (λb=>O b∨b=D∨b=D+1) W∧W.heap[D+1]? =some (.loop (rec .done (some c)))∧W.heap[D]? =some (.deferred (some []))∧∀b,O b->D+2<=b)
   W1 hb1 ?_ ?_ ?_ ⟨hI1,hL1,hK1,λ_ x=>x.elim⟩).mono ?_
  .rintro k O O' A B ⟨hi,hl,hk,ho⟩ hK hn
   have hlt:D+1 < A.heap.size:=(Array.getElem?_eq_some_iff.1 hl).1;refine ⟨hI _ _ _ _ _ hi (hK.mono (λb _ x y=>x (.inl y))) (λb x=>?_),?_,?_,λb x=>?_⟩
   .rcases x with x | x
    .exact (hn b x).imp_left .inl
    .exact .inl (.inr x)
   .exact (hK.block _ hlt (λx=>by have:=ho _ x;omega)).trans hl
   .exact (hK.block _ (by omega) (λx=>by have:=ho _ x;omega)).trans hk
   .rcases hn b x with x | x
    .exact ho b x
    .omega
  .rintro k O O' A B ⟨c,hi,hl,hk,ho⟩ hK hn
   have hlt:D+1 < A.heap.size:=(Array.getElem?_eq_some_iff.1 hl).1;refine ⟨c,hIx c _ _ _ _ _ hi (hK.mono (λb _ x y=>x (.inl y))) (λb x=>?_),?_,?_,λb x=>?_⟩
   .rcases x with x | x
    .exact (hn b x).imp_left .inl
    .exact .inl (.inr x)
   .exact (hK.block _ hlt (λx=>by have:=ho _ x;omega)).trans hl
   .exact (hK.block _ (by omega) (λx=>by have:=ho _ x;omega)).trans hk
   .rcases hn b x with x | x
    .exact ho b x
    .omega
  .rintro k O W hlen hOb ⟨hi,hl,hk,ho⟩
   have hlt:D+1 < W.heap.size:=(Array.getElem?_eq_some_iff.1 hl).1;have Uo:∀b,(O b∨b=D∨b=D+1)->NB W b:=λb z=>by
    rcases z with z | z | z
    .exact hOb b z
    .exact ⟨_,z▸hk,λc fz e=>by cases e⟩
    .exact ⟨_,z▸hl,λc fz e=>by cases e⟩
   have hy:=run_yield (P:=P) (args:=encs k) hl (by rw [hrec];exact hps k);rw [hrec] at hy;refine ⟨fn,_,assign,body,hy,roundIn_of_wpIn hfn (hassign _ k _ W _ hlen Uo hi (λa' W' hKW hi' hax=>?_))⟩;have hl':W'.heap[D+1]? =some (.loop (rec .ready none)):=(hKW.block _ hlt trivial).trans hl;have hk':W'.heap[D]? =some (.deferred (some [])):=(hKW.block _ (by omega) trivial).trans hk;have hlt':D+1 < W'.heap.size:=(Array.getElem?_eq_some_iff.1 hl').1;refine ⟨_,run_beginRound hl' (by rw [hrec]),?_⟩;obtain ⟨W2,hW2⟩:∃W2,W'.putObj (D+1) (.loop {rec .ready none with state:=.busy})=W2:=⟨_,rfl⟩
   have hl2:W2.heap[D+1]? =some (.loop {rec .ready none with state:=.busy}):=by rw [<- hW2];exact World.putObj_heap_same hlt'
   have hk2:W2.heap[D]? =some (.deferred (some [])):=by rw [<- hW2];exact (World.putObj_heap_other (by omega)).trans hk'
   have Uq:Kept (λb=>¬(O b∨b=D∨b=D+1)) W' W2:=by rw [<- hW2];exact Kept.putObj _ _ _ _ (λx=>x (.inr (.inr rfl)))
   have hkO:Kept (λb=>O b∨Sb b) W W2:=by
    refine (hKW.mono (λ_ _ _=>trivial)).trans ?_;rw [<- hW2];refine Kept.putObj _ _ _ _ (λx=>?_);rcases x with x | x
    .have:=ho _ x;omega
    .have:=hn0 _ x;omega
   have hi2:I k (λb=>O b∨b=D∨b=D+1) W2:=hI.same hi' Uq;have hlow:∀b,(O b∨b=D∨b=D+1)->w.heap.size<=b:=λb x=>by
    rcases x with x | x
    .have:=ho b x;omega
    .omega
   have Kg:∀b,(O b∨b=D∨b=D+1)->NB W2 b:=λb z=>by
    by_cases e:b=D+1
    .exact ⟨_,e▸hl2,λc fz e=>by cases e⟩
    .have h1:=(Uo b z).kept hKW trivial
     have h2:Kept (λb=>b≠D+1) W' W2:=by rw [<- hW2];exact Kept.putObj _ _ _ _ (λx=>x rfl)
     exact h1.kept h2 e
   rw [hW2];refine wpIn_mono (hbody _ k _ a' W' W2 hlen hax Uq Kg hi2 hlow) ?_;have fin:∀(jump:Option Code) (W3:World),Kept (λb=>(O b∨b=D∨b=D+1)∨Sb b) W2 W3->
     ∃W4,W4=W3.putObj (D+1) (.loop (rec (if jump.isNone then .ready else .done) jump))∧(Instr.endRound (D+1) jump).run P W3=.ok (.bool jump.isNone) W4∧
     W4.heap[D+1]? =some (.loop (rec (if jump.isNone then .ready else .done) jump))∧W4.heap[D]? =some (.deferred (some []))∧
     Kept (λb=>O b∨Sb b) W W4∧Kept (λb=>¬(O b∨b=D∨b=D+1)) W3 W4:=λjump W3 hk3=>by
    have hlt2:D+1 < W2.heap.size:=(Array.getElem?_eq_some_iff.1 hl2).1;have hl3:=(hk3.block (D+1) hlt2 (.inl (.inr (.inr rfl)))).trans hl2;have aar:=(hk3.block D (by omega) (.inl (.inr (.inl rfl)))).trans hk2;have hlt3:D+1 < W3.heap.size:=(Array.getElem?_eq_some_iff.1 hl3).1;have hr:=run_endRound (P:=P) jump hl3;refine ⟨_,rfl,?_,World.putObj_heap_same hlt3,(World.putObj_heap_other (by omega)).trans aar,?_,Kept.putObj _ _ _ _ (λx=>x (.inr (.inr rfl)))⟩
    .rw [hrec] at hr ⊢
     exact hr
    .refine (hkO.trans (hk3.mono (λb _ x=>?_))).trans (Kept.putObj _ _ _ _ (λx=>?_))
     .rcases x with x | x
      .exact .inl (.inl x)
      .exact .inr x
     .rcases x with x | x
      .have:=ho _ x;omega
      .have:=hn0 _ x;omega
   rintro e a3 W3 hp
   cases e with
   | normal=>
    obtain ⟨hk3,hi3⟩:=hp;obtain ⟨W4,-,hr,hl4,hk4,hK4,rC⟩:=fin none W3 hk3;exact ⟨_,W4,hr,hK4,.inl ⟨rfl,hI.same hi3 rC,hl4,hk4,ho⟩⟩
   | ret=>
    obtain ⟨hk3,hi3⟩:=hp;obtain ⟨W4,-,hr,hl4,hk4,hK4,rC⟩:=fin (some .ret) W3 hk3;exact ⟨_,W4,hr,hK4,.inr ⟨rfl,.ret,(hIx _).same hi3 rC,hl4,hk4,ho⟩⟩
   | exit id=>
    obtain ⟨hk3,hi3⟩:=hp;obtain ⟨W4,-,hr,hl4,hk4,hK4,rC⟩:=fin (some (.exit id)) W3 hk3;exact ⟨_,W4,hr,hK4,.inr ⟨rfl,.exit id,(hIx _).same hi3 rC,hl4,hk4,ho⟩⟩
   | goto t=>
    obtain ⟨hk3,hi3⟩:=hp;obtain ⟨W4,-,hr,hl4,hk4,hK4,rC⟩:=fin (some (.goto t)) W3 hk3;exact ⟨_,W4,hr,hK4,.inr ⟨rfl,.goto t,(hIx _).same hi3 rC,hl4,hk4,ho⟩⟩
   | panic ch=>exact hp.elim
   | outgrown=>exact hp.elim
  .have hlow:∀O:Nat->Prop,(∀b,O b->D+2<=b)->∀b,(O b∨b=D∨b=D+1)->w.heap.size<=b:=λO ho b x=>by
    rcases x with x | x
    .have:=ho b x;omega
    .omega
   rintro e W2 ⟨⟨v,rfl⟩,(⟨O,hi,hl,hk,ho⟩ | ⟨k,O,hk0,c,hi,hl,hk,ho⟩)⟩
   .exact ⟨none,_,by have:=run_endLoop (P:=P) hl (by rw [hrec];simp);rw [hrec] at this;exact this,
     hdone D (λb=>O b∨b=D∨b=D+1) _ (by omega) (.inr (.inl rfl)) (hlow O ho) (hI.same hi (Kept.putObj _ _ _ _ (λx=>x (.inr (.inr rfl))))) ((World.putObj_heap_other (by omega)).trans hk)⟩
   .exact ⟨some c,_,by have:=run_endLoop (P:=P) hl (by rw [hrec];simp);rw [hrec] at this;exact this,
     hstop D c k (λb=>O b∨b=D∨b=D+1) _ (by omega) (.inr (.inl rfl)) (hlow O ho) hk0 ((hIx c).same hi (Kept.putObj _ _ _ _ (λx=>x (.inr (.inr rfl))))) ((World.putObj_heap_other (by omega)).trans hk)⟩
theorem Fit.bounds {E:Nat->List bq} {M:Nat} (hM:∀k,(E k).length<=M):∀(F:Fo) (fs:List bq),Fit E F fs->F.ct<=M * F.wt+F.len∧F.bZ<=M * F.wt∧F.size<=M * F.wt+F.len
 | .nil,_,_=>⟨Nat.zero_le _,Nat.zero_le _,Nat.zero_le _⟩
 | .v x r,fs,h=>by
  have hr:∃gs,Fit E r gs:=by
   cases fs with
   | nil=>exact absurd (ai h) (by simp)
   | cons f gs=>
    refine ⟨gs,?_⟩
    cases f with
    | i=>obtain ⟨_,_,e,_,hr⟩:=eu h;cases e;exact hr
    | b=>obtain ⟨_,_,e,hr⟩:=dE h;cases e;exact hr
    | u=>obtain ⟨_,_,e,_,hr⟩:=jy h;cases e;exact hr
    | t=>obtain ⟨_,_,e,_,hr⟩:=aU h;cases e;exact hr
    | s k=>obtain ⟨_,_,_,_,_,e,_,_⟩:=ay h;cases e
  obtain ⟨gs,hr⟩:=hr;obtain ⟨h1,h2,h3⟩:=Fit.bounds hM r gs hr;simp only [Fo.ct,Fo.bZ,Fo.size,Fo.wt,Fo.len,Nat.mul_add];omega
 | .s a n cap ks r,fs,h=>by
  have hr:∃k gs,Fit E ks (rep (E k) n)∧Fit E r gs:=by
   cases fs with
   | nil=>exact absurd (ai h) (by simp)
   | cons f gs=>
    cases f with
    | i=>obtain ⟨_,_,e,_,hr⟩:=eu h;cases e
    | b=>obtain ⟨_,_,e,hr⟩:=dE h;cases e
    | u=>obtain ⟨_,_,e,_,hr⟩:=jy h;cases e
    | t=>obtain ⟨_,_,e,_,hr⟩:=aU h;cases e
    | s k=>obtain ⟨_,_,_,_,_,e,hk,hr⟩:=ay h;cases e;exact ⟨k,gs,hk,hr⟩
  obtain ⟨k,gs,hk,hr⟩:=hr;obtain ⟨h1,h2,h3⟩:=Fit.bounds hM r gs hr;obtain ⟨k1,k2,k3⟩:=Fit.bounds hM ks _ hk;have hl:ks.len<=M * n:=by rw [hk.len,dz,Nat.mul_comm];exact Nat.mul_le_mul_right _ (hM k)
  simp only [Fo.ct,Fo.bZ,Fo.size,Fo.wt,Fo.len,Nat.mul_add];omega
structure jA (W:World) (bs:List (Nat×List Value)) (fs:List Fo) (os:List (Nat×Fo)) (V:World):Prop where
 be:Below W.heap.size W V
 bx:∀p∈bs,Bx V p.1 p.2
 fo:∀F∈fs,F.av V (λc=>c < V.heap.size)
 ow:∀p∈os,Own p.1 V p.2
theorem jA.start (W:World):jA W [] [] [] W:=⟨Below.refl _ _,λp hp=>by simp at hp,λp hp=>by simp at hp,λp hp=>by simp at hp⟩
theorem jA.kept {W A B:World} {bs:List (Nat×List Value)} {fs:List Fo} {os:List (Nat×Fo)} {S:Nat->Prop} (h:jA W bs fs os A) (k:Kept S A B) (h0:∀c,c < W.heap.size->S c) (h1:∀p∈bs,S p.1) (h2:∀F∈fs,∀c∈F.ah,S c) (h3:∀p∈os,∀c,p.1<=c->c < A.heap.size->S c):jA W bs fs os B:=
 ⟨Below.kept h.be k h0 (Nat.le_refl _),λp hp=>(h.bx p hp).kept k (h1 p hp),λF hF=>by
  have hs:=h.fo F hF;have hz:=k.size;have hi:=hs.bu;exact (hs.own.kept k (λc hc=>⟨h2 F hF c hc,hi c hc⟩)).mono (λc hc=>Nat.lt_of_lt_of_le (hi c hc) hz),λp hp=>(h.ow p hp).kept k (h3 p hp)⟩
theorem jA.below {W A B:World} {bs:List (Nat×List Value)} {fs:List Fo} {os:List (Nat×Fo)} (h:jA W bs fs os A) (k:Below A.heap.size A B):jA W bs fs os B:=
 h.kept (kt (S:=λ_=>True) k) (λ_ _=>trivial) (λ_ _=>trivial) (λ_ _ _ _=>trivial) (λ_ _ _ _ _=>trivial)
theorem jA.box {W A:World} {bs:List (Nat×List Value)} {fs:List Fo} {os:List (Nat×Fo)} (h:jA W bs fs os A) (L:List Value) (t:TypeId):jA W ((A.heap.size,L)::bs) fs os (A.alloc (.cells L.toArray t)):=by
 have h':=h.kept (Kept.alloc (λ_=>True) A (.cells L.toArray t)) (λ_ _=>trivial) (λ_ _=>trivial) (λ_ _ _ _=>trivial) (λ_ _ _ _ _=>trivial);refine ⟨h'.be,λp hp=>?_,h'.fo,h'.ow⟩;rcases List.mem_cons.1 hp with rfl | hp
 .exact Bx.new A L t
 .exact h'.bx p hp
theorem jA.add {W A:World} {bs:List (Nat×List Value)} {fs:List Fo} {os:List (Nat×Fo)} {F:Fo} (h:jA W bs fs os A) (hF:F.av A (λc=>c < A.heap.size)):jA W bs (F ::fs) os A:=
 ⟨h.be,h.bx,λG hG=>by rcases List.mem_cons.1 hG with rfl | hG;exact hF;exact h.fo G hG,h.ow⟩
theorem jA.adds {W A:World} {bs:List (Nat×List Value)} {fs:List Fo} {os:List (Nat×Fo)} {lo:Nat} {F:Fo} (h:jA W bs fs os A) (hF:Own lo A F):jA W bs (F ::fs) ((lo,F)::os) A:=by
 have h':=h.add (hF.subs.mono (λ_ x=>x.2));refine ⟨h'.be,h'.bx,h'.fo,λp hp=>?_⟩;rcases List.mem_cons.1 hp with rfl | hp
 .exact hF
 .exact h.ow p hp
theorem jA.drop {W A:World} {bs cs:List (Nat×List Value)} {fs gs:List Fo} {os ps:List (Nat×Fo)} (h:jA W bs fs os A) (hb:∀p∈cs,p∈bs) (hs:∀G∈gs,G∈fs) (ho:∀p∈ps,p∈os):jA W cs gs ps A:=⟨h.be,λp hp=>h.bx p (hb p hp),λG hG=>h.fo G (hs G hG),λp hp=>h.ow p (ho p hp)⟩
theorem jA.cell {W A:World} {bs:List (Nat×List Value)} {fs:List Fo} {os:List (Nat×Fo)} (h:jA W bs fs os A) (b:Nat) (L:List Value) (hb:(b,L)∈bs) (i:Nat) (v:Value) (hv:L[i]? =some v):A.cell? ⟨b,i,none⟩=some v:=
 (h.bx _ hb).ae i v hv
theorem jA.lt {W A:World} {bs:List (Nat×List Value)} {fs:List Fo} {os:List (Nat×Fo)} (h:jA W bs fs os A) (b:Nat) (L:List Value) (hb:(b,L)∈bs):b < A.heap.size:=(h.bx _ hb).lt
theorem all1 {α:Type} {p:α->Prop} {a:α} (h:p a):∀x∈[a],p x:=λx hx=>by rcases List.mem_cons.1 hx with rfl | hx;exact h;exact absurd hx List.not_mem_nil
theorem vC {α:Type} {p:α->Prop} {a:α} {l:List α} (h:p a) (hl:∀x∈l,p x):∀x∈a ::l,p x:=λx hx=>by rcases List.mem_cons.1 hx with rfl | hx;exact h;exact hl x hx
end Go.Proofs.YthfnobboalhihaaGreat
