import Derived.Test.YthfnobboalhihaaGreatYfK
set_option maxHeartbeats 4000000
set_option maxRecDepth 100000
namespace Go.Proofs.YthfnobboalhihaaGreat.K
open Go.RowKit Go.Joins
variable {O:Nat->Nat}
theorem lG {lo G:Nat} {V:World} {K:List (Nat×Nat)} {mv sv:Value} {fs:Nat->Int} (h:GS O lo G V K K mv sv fs) (hn:(K.map Prod.fst).Nodup) {i j:Nat} {e:Nat×Nat} (he:K[i]? =some e) (hj:j < e.2) (hl:K.length<=10000000) (hf:0<=fs i∧fs i<=10000000) (he2:e.2<=10000000):
  Calls Tryz.prog 76 #[.pointer (some ⟨G,0,none⟩),.pointer (some ⟨e.1,O e.1+j * 7,none⟩)] V λr V'=>r=.returned (.int .i64 (fs i+j))∧Kept (λ_=>True) V V':=by
 have hi:i < K.length:=(List.getElem?_eq_some_iff.1 he).1;obtain ⟨M,rfl,hM⟩:∃M,mv=.map (some M)∧MP V M (bF O 0 K):=by
  exact zz208
 have rl:(Instr.lookup 133 (.map (some M)) (.pointer (some ⟨e.1,O e.1+j * 7,none⟩)) false).run Tryz.prog V=.ok (.agg #[.int .i64 i,.int .i64 j]) V:=MP.aaE hM (λp hp=>by
  obtain ⟨k,e',e1,e2,-⟩:=dG 0 _ p hp;rw [e2];exact (h.lv e' (List.mem_of_getElem? e1)).1) (e.1,O e.1+j * 7) (h.lv e (List.mem_of_getElem? he)).1 (pO hn he hj) false
 have c0:=h.gm;have HW:=hide (nT h i j hi hl);obtain ⟨b,cap,rfl,-,-,hcap⟩:=h.slice (by omega);have hic:i < cap:=by omega
 have gQ:Hid (∀V',Kept (λ_=>True) V V'->V'.cell? ⟨G,1,none⟩=some (.slice (some ⟨b,0,none⟩) K.length cap)∧(V'.cell? ⟨b,i * 5,none⟩=some (.int .i64 i)∧V'.cell? ⟨b,i * 5+1,none⟩=some (.int .i64 0)∧V'.cell? ⟨b,i * 5+2,none⟩=some (.int .i64 0)∧V'.cell? ⟨b,i * 5+3,none⟩=some (.int .i64 e.2)∧V'.cell? ⟨b,i * 5+4,none⟩=some (.int .i64 (fs i)))):=λV' k=>by
  exact zz94
 obtain ⟨n,hnn⟩:∃n,K.length=n:=⟨_,rfl⟩
 rw [hnn] at gQ hi hcap;obtain ⟨f,Df⟩:∃f,fs i=f:=⟨_,rfl⟩
 rw [Df] at gQ hf ⊢;obtain ⟨e1,e2⟩:=e;dsimp only at rl hj he2 gQ ⊢;have hf1:=hf.1;have hf2:=hf.2;have hij:(i:Int) < (n:Int):=by omega
 clear h hn he hl hM hf Df hnn;go_enter Tryz.func76,Tryz.ntmps76
 go_upto_region 2 with (go_at_call 101;refine HW.out.mono ?_;rintro r v1 ⟨rfl,k1⟩;have K1:=hide k1;clear k1)
 exact zz8
variable {O:Nat->Nat}
def off (K:List (Nat×Nat)) (i:Nat):Nat:=((K.take i).map Prod.snd).sum
theorem lF {K:List (Nat×Nat)} {i:Nat} {e:Nat×Nat} (h:K[i]? =some e):off K (i+1)=off K i+e.2:=by
 unfold off;rw [List.take_add_one,h]
 simp
theorem qi {K:List (Nat×Nat)} {i j:Nat} (h:i<=j):off K i<=off K j:=by
 exact zz69
theorem gL {K:List (Nat×Nat)} {i i':Nat} {e:Nat×Nat} (h:K[i]? =some e) (hi:i < i'):off K i+e.2<=off K i':=by
 rw [<- lF h];exact qi hi
theorem rF {K:List (Nat×Nat)} {i j:Nat} {e:Nat×Nat} (h:K[i]? =some e) (hj:j < e.2):off K i+j < off K K.length:=by
 have:=gL h (List.getElem?_eq_some_iff.1 h).1
 omega
theorem Ae {K:List (Nat×Nat)} {i i' j j':Nat} {e e':Nat×Nat} (h:K[i]? =some e) (h':K[i']? =some e') (hj:j < e.2) (hj':j' < e'.2) (he:off K i+j=off K i'+j'):i=i'∧j=j':=by
 exact zz173
def iO (K:List (Nat×Nat)) (i:Nat):Nat->Int:=λk=>if k < i then (off K k:Int) else 0
theorem lD (K:List (Nat×Nat)):iO K 0=zf:=by funext k;simp [iO,zf]
theorem jM {fs gs:Nat->Int}:∀(s:Nat) (K:List (Nat×Nat)),(∀k,s<=k->k < s+K.length->fs k=gs k)->strs fs s K=strs gs s K
 | _,[],_=>rfl
 | s,e ::K,h=>by
  exact zz177
theorem uH {fs gs:Nat->Int} (A B:List (Nat×Nat)) (e:Nat×Nat) (h:∀k,k≠A.length->fs k=gs k):∃xs ys,strs fs 0 (A++e ::B)=xs++.int .i64 (fs A.length)::ys∧strs gs 0 (A++e ::B)=xs++.int .i64 (gs A.length)::ys∧xs.length=A.length * 5+4:=by
 exact zz76
theorem wV {K:List (Nat×Nat)} {i:Nat} {e:Nat×Nat} (h:K[i]? =some e):∃xs ys,strs (iO K i) 0 K=xs++.int .i64 0 ::ys∧strs (iO K (i+1)) 0 K=xs++.int .i64 (off K i:Int)::ys∧xs.length=i * 5+4:=by
 exact zz33
structure TI (O:Nat->Nat) (w:World) (tb:Nat) (K left:List (Nat×Nat)):Prop where
 lt:tb < w.heap.size
 live:∀j,w.frozen? ⟨tb,j,none⟩=false
 room:∀k,k < off K K.length->∃v,w.cell? ⟨tb,k,none⟩=some v
 full:∀i e j,K[i]? =some e->j < e.2->(e.1,O e.1+j * 7)∈left∨w.cell? ⟨tb,off K i+j,none⟩=some (kp (e.1,O e.1+j * 7))
theorem TI.kept {w w':World} {tb:Nat} {K left:List (Nat×Nat)} {S:Nat->Prop} (h:TI O w tb K left) (k:Kept S w w') (hS:S tb):TI O w' tb K left:=
 ⟨Nat.lt_of_lt_of_le h.lt k.size,λj=>(k.frozen (p:=⟨tb,j,none⟩) h.lt hS).trans (h.live j),λn hn=>by obtain ⟨v,hv⟩:=h.room n hn;exact ⟨v,(k.cell (p:=⟨tb,n,none⟩) h.lt hS).trans hv⟩,λi e j he hj=>(h.full i e j he hj).imp id (λhc=>(k.cell (p:=⟨tb,off K i+j,none⟩) h.lt hS).trans hc)⟩
theorem TI.put {w:World} {tb:Nat} {K left left':List (Nat×Nat)} (h:TI O w tb K left) (hn:(K.map Prod.fst).Nodup) {i j:Nat} {e:Nat×Nat} (he:K[i]? =some e) (hj:j < e.2) (hl:∀y∈left,y=(e.1,O e.1+j * 7)∨y∈left'):TI O (w.setCell ⟨tb,off K i+j,none⟩ (kp (e.1,O e.1+j * 7))) tb K left':=by
 obtain ⟨v0,hv0⟩:=h.room _ (rF he hj);refine ⟨by simpa only [World.size_setCell] using h.lt,λq=>by rw [World.frozen?_setCell];exact h.live q,λn hn=>?_,λi' e' j' he' hj'=>?_⟩
 .by_cases en:n=off K i+j
  .subst en
   exact ⟨_,World.cell?_setCell_same' _ _ _ (by rw [hv0];rfl)⟩
  .obtain ⟨v,hv⟩:=h.room n hn
   exact zz196
 .by_cases en:off K i'+j'=off K i+j
  .obtain ⟨rfl,rfl⟩:=Ae he' he hj' hj en
   exact zz219
  .rcases h.full i' e' j' he' hj' with h1 | h1
   .rcases hl _ h1 with h2 | h2
    .exfalso
     have h3:e'.1=e.1:=(Prod.mk.inj h2).1;have h4:O e'.1+j' * 7=O e.1+j * 7:=(Prod.mk.inj h2).2;exact zz102
    .exact .inl h2
   .right
    exact zz223
variable {O:Nat->Nat}
theorem H9:(Tryz.prog.info? 55).map (λi=>(i.zero,i.size,i.bytes))=some (some (.pointer none),1,8):=by kernel_rfl
theorem jG (n:Nat) (hn:n<=10000000) (w:World):
  (Instr.makeSlice 113 (.int .i64 (n:Int)) (.int .i64 (n:Int))).run Tryz.prog w=.ok (.slice (some ⟨w.heap.size,0,none⟩) n n) (w.alloc (.cells (madeCells #[.pointer none] n) 55)):=by
 obtain ⟨i,hi,hzz⟩:=Option.map_eq_some_iff.1 H9;simp only [Prod.mk.injEq] at hzz;obtain ⟨hz,hs,hb⟩:=hzz;have hr:=run_make (P:=Tryz.prog) w 113 55 i _ Tryz.underlying113 hi hz .i64 .i64 n n (by omega) (Int.le_refl _) (by rw [hb];omega) (by omega);simp only [Int.toNat_natCast,hs,Nat.mul_one] at hr;exact hr
def LP (O:Nat->Nat) (lo G:Nat) (V:World) (K:List (Nat×Nat)) (mv sv:Value) (i:Nat) (w:World):Prop:=
 GS O lo G w K K mv sv (iO K i)∧Kept (λd=>sv.ownBlock≠some d) V w
theorem LP.next {lo G:Nat} {V w:World} {K:List (Nat×Nat)} {mv:Value} {b n cap i:Nat} {e:Nat×Nat} (h:LP O lo G V K mv (.slice (some ⟨b,0,none⟩) n cap) i w) (hn:K.length=n) (he:K[i]? =some e):
  LP O lo G V K mv (.slice (some ⟨b,0,none⟩) n cap) (i+1) (w.setCell ⟨b,i * 5+4,none⟩ (.int .i64 (off K i))):=by
 exact zz61
theorem LP.read {lo G:Nat} {V w:World} {K:List (Nat×Nat)} {mv:Value} {b n cap i k:Nat} {e:Nat×Nat} (h:LP O lo G V K mv (.slice (some ⟨b,0,none⟩) n cap) k w) (hn:K.length=n) (he:K[i]? =some e):
  w.cell? ⟨G,1,none⟩=some (.slice (some ⟨b,0,none⟩) n cap)∧w.cell? ⟨b,i * 5,none⟩=some (.int .i64 i)∧w.cell? ⟨b,i * 5+2,none⟩=some (.int .i64 0)∧w.cell? ⟨b,i * 5+3,none⟩=some (.int .i64 e.2)∧(∃v,w.cell? ⟨b,i * 5+4,none⟩=some v)∧w.frozen? ⟨b,i * 5+4,none⟩=false:=by
 exact zz100
theorem LP.kept {lo G:Nat} {V w w':World} {K:List (Nat×Nat)} {mv sv:Value} {i:Nat} (h:LP O lo G V K mv sv i w) (k:Kept (λ_=>True) w w'):LP O lo G V K mv sv i w':=⟨h.1.kept k,h.2.trans (k.mono (λ_ _ _=>trivial))⟩
structure SL (O:Nat->Nat) (lo G:Nat) (V:World) (K:List (Nat×Nat)) (M:Nat) (sv:Value) (tb I:Nat) (left:List (Nat×Nat)) (w:World):Prop where
 g:GS O lo G w K K (.map (some M)) sv (iO K K.length)
 i:IW w I M (bF O 0 K) left
 t:TI O w tb K left
 c:w.cell? ⟨G,2,none⟩=some (.slice (some ⟨tb,0,none⟩) (off K K.length) (off K K.length))
 k:Kept (λd=>d≠G∧sv.ownBlock≠some d) V w
 o:∀q,q≠2->w.cell? ⟨G,q,none⟩=V.cell? ⟨G,q,none⟩
 hs:V.heap.size<=tb∧tb < I∧M < V.heap.size∧∀d,sv.ownBlock=some d->d < V.heap.size
theorem SL.step {lo G:Nat} {V w w':World} {K:List (Nat×Nat)} {M:Nat} {sv:Value} {tb I:Nat} {left:List (Nat×Nat)} (h:SL O lo G V K M sv tb I left w) (k:Kept (λd=>d≠I) w w'):GS O lo G w' K K (.map (some M)) sv (iO K K.length)∧TI O w' tb K left∧w'.cell? ⟨G,2,none⟩=some (.slice (some ⟨tb,0,none⟩) (off K K.length) (off K K.length))∧Kept (λd=>d≠G∧sv.ownBlock≠some d) V w'∧∀q,q≠2->w'.cell? ⟨G,q,none⟩=V.cell? ⟨G,q,none⟩:=by
 have hG:=h.g.hg;have hv:=h.g.hv;obtain ⟨s1,s2,s3,s4⟩:=h.hs;have hV:=h.k.size;have U6:lo<=I:=by
  have:M < V.heap.size:=s3
  exact zz111
 refine ⟨h.g.off k U6 (λM' e=>by cases e;omega) (λb e=>by have:=s4 b e;omega),h.t.kept k (by omega),(k.cell (p:=⟨G,2,none⟩) (by show G < _;omega) (by show G≠I;omega)).trans h.c,?_,λq hq=>(k.cell (p:=⟨G,q,none⟩) (by show G < _;omega) (by show G≠I;omega)).trans (h.o q hq)⟩;exact zz122
end Go.Proofs.YthfnobboalhihaaGreat.K
