import Derived.Test.YthfnobboalhihaaGreatVb
import Derived.Deep.RegionLaw
set_option maxHeartbeats 4000000
set_option maxRecDepth 100000
namespace Go.Proofs.YthfnobboalhihaaGreat.A
open Go.RowKit Go.Joins
variable {O:Nat->Nat}
def bF (O:Nat->Nat):Nat->List (Nat×Nat)->List ((Nat×Nat)×(Nat×Nat))
 | _,[]=>[]
 | i,e ::r=>(List.range e.2).map (λj=>((e.1,O e.1+j * 9),(i,j)))++bF O (i+1) r
theorem jr:∀(i:Nat) (K L:List (Nat×Nat)),bF O i (K++L)=bF O i K++bF O (i+K.length) L
 | i,[],L=>by simp [bF]
 | i,e ::K,L=>by
  exact zz151
theorem uk (K:List (Nat×Nat)) (b n:Nat):bF O 0 (K++[(b,n+1)])=bF O 0 (K++[(b,n)])++[((b,O b+n * 9),(K.length,n))]:=by
 rw [jr,jr];simp [bF,List.range_succ]
theorem uq (K:List (Nat×Nat)) (b:Nat):bF O 0 (K++[(b,0)])=bF O 0 K:=by
 rw [jr];simp [bF]
theorem dG:∀(i:Nat) (K:List (Nat×Nat)) (p:(Nat×Nat)×(Nat×Nat)),p∈bF O i K->∃k e,K[k]? =some e∧p.1.1=e.1∧p.2.1=i+k∧p.2.2 < e.2∧p.1.2=O p.1.1+p.2.2 * 9
 | i,[],p,h=>by simp [bF] at h
 | i,e ::K,p,h=>by
  exact zz98
theorem jH {x:Nat×Nat}:∀(kv:List ((Nat×Nat)×(Nat×Nat))),(∀p∈kv,p.1≠x)->fK x kv=none
 | [],_=>rfl
 | p ::r,h=>by
  exact zz198
theorem wH {K:List (Nat×Nat)} {b:Nat} (h:∀e∈K,e.1≠b) (o:Nat):fK (b,o) (bF O 0 K)=none:=jH _ (λp hp e=>by
 obtain ⟨k,e',h1,h2,-⟩:=dG 0 K p hp;rw [e] at h2;exact h e' (List.mem_of_getElem? h1) h2.symm)
theorem nO {K:List (Nat×Nat)} {b n:Nat} (h:∀e∈K,e.1≠b):fK (b,O b+n * 9) (bF O 0 (K++[(b,n)]))=none:=jH _ (λp hp e=>by
 obtain ⟨k,e',h1,h2,-,h4,h5⟩:=dG 0 _ p hp;rw [e] at h2 h5;rcases List.mem_append.1 (List.mem_of_getElem? h1) with h6 | h6
 .exact h e' h6 h2.symm
 .have:e'=(b,n):=by simpa using h6
  rw [this] at h4;have h7:O b+n * 9=O b+p.2.2 * 9:=h5;have h8:p.2.2 < n:=h4;omega)
theorem nP {x:Nat×Nat} {v:Nat×Nat}:∀(kv:List ((Nat×Nat)×(Nat×Nat))),(x,v)∈kv->(∀p∈kv,∀q∈kv,p.1=q.1->p.2=q.2)->fK x kv=some v
 | [],h,_=>by cases h
 | p ::r,h,hu=>by
  exact zz85
theorem pO {K:List (Nat×Nat)} (hn:(K.map Prod.fst).Nodup) {i:Nat} {e:Nat×Nat} (h:K[i]? =some e) {j:Nat} (hj:j < e.2):fK (e.1,O e.1+j * 9) (bF O 0 K)=some (i,j):=by
 have hmem:∀(s:Nat) (K:List (Nat×Nat)) (i:Nat),K[i]? =some e->((e.1,O e.1+j * 9),(s+i,j))∈bF O s K:=by
  exact zz55
 have h1:=hmem 0 K i h;rw [Nat.zero_add] at h1;refine nP _ h1 (λp hp q hq hpq=>?_);obtain ⟨k,a,p1,p2,p3,p4,p5⟩:=dG 0 K p hp;obtain ⟨k',a',q1,q2,q3,q4,q5⟩:=dG 0 K q hq;have hb:a.1=a'.1:=by rw [<- p2,<- q2,hpq]
 have hk:k=k':=by
  exact zz71
 have hj2:O p.1.1+p.2.2 * 9=O p.1.1+q.2.2 * 9:=by rw [<- p5,hpq,<- q5]
 have e1:p.2.2=q.2.2:=by omega
 exact Prod.ext (by rw [p3,q3,hk]) e1
def strs (fs:Nat->Int):Nat->List (Nat×Nat)->List Value
 | _,[]=>[]
 | i,e ::r=>[.int .i64 i,.int .i64 0,.int .i64 0,.int .i64 e.2,.int .i64 (fs i)]++strs fs (i+1) r
theorem eB (fs:Nat->Int):∀(i:Nat) (K L:List (Nat×Nat)),strs fs i (K++L)=strs fs i K++strs fs (i+K.length) L
 | i,[],L=>by simp [strs]
 | i,e ::K,L=>by
  exact zz146
theorem iE (fs:Nat->Int):∀(i:Nat) (K:List (Nat×Nat)),(strs fs i K).length=K.length * 5
 | _,[]=>rfl
 | i,e ::K=>by
  exact zz218
theorem bO (fs:Nat->Int) {K:List (Nat×Nat)} {i:Nat} {e:Nat×Nat} (h:K[i]? =some e) {j:Nat} {v:Value} (hv:[Value.int .i64 i,.int .i64 0,.int .i64 0,.int .i64 e.2,.int .i64 (fs i)][j]? =some v):(strs fs 0 K)[i * 5+j]? =some v:=by
 exact zz37
variable {O:Nat->Nat}
structure GS (O:Nat->Nat) (lo G:Nat) (V:World) (km ks:List (Nat×Nat)) (mv sv:Value) (fs:Nat->Int):Prop where
 gm:V.cell? ⟨G,4,none⟩=some mv
 gs:V.cell? ⟨G,5,none⟩=some sv
 gf:∀j,V.frozen? ⟨G,j,none⟩=false
 mp:(km=[]∧mv=.map none)∨∃M,mv=.map (some M)∧MP V M (bF O 0 km)∧lo<=M
 ow:V.ownsRow lo 188 5 sv ks.length (strs fs 0 ks)
 lv:∀e∈km,aO V e.1∧e.1 < lo∧e.1≠G
 hv:lo<=V.heap.size
 hg:G < lo
section
variable {lo G:Nat} {V:World} {km ks:List (Nat×Nat)} {mv sv:Value} {fs:Nat->Int}
theorem GS.kept (h:GS O lo G V km ks mv sv fs) {V':World} (k:Kept (λ_=>True) V V'):GS O lo G V' km ks mv sv fs:=by
 have hg:=h.hg;have hv:=h.hv;refine ⟨?_,?_,λj=>?_,?_,aj h.ow k (λ_ _=>trivial),λe he=>⟨(h.lv e he).1.all k,(h.lv e he).2⟩,by have:=k.size;omega,hg⟩
 .rw [k.cell (p:=⟨G,4,none⟩) (by show G < _;omega) trivial];exact h.gm
 .rw [k.cell (p:=⟨G,5,none⟩) (by show G < _;omega) trivial];exact h.gs
 .rw [k.frozen (p:=⟨G,j,none⟩) (by show G < _;omega) trivial];exact h.gf j
 .rcases h.mp with h1 | ⟨M,h1,h2,h3⟩
  .exact .inl h1
  .exact .inr ⟨M,h1,h2.kept k trivial,h3⟩
theorem GS.other (h:GS O lo G V km ks mv sv fs) {V':World} (k:Kept (λd=>d≠G) V V') (h0:V'.cell? ⟨G,4,none⟩=some mv) (h1:V'.cell? ⟨G,5,none⟩=some sv) (h2:∀j,V'.frozen? ⟨G,j,none⟩=false):GS O lo G V' km ks mv sv fs:=by
 exact zz70
theorem GS.frame (h:GS O lo G V km ks mv sv fs) {V':World} {S:Nat->Prop} (k:Kept S V V') (hL:∀e∈km,S e.1) (hS:∀d,mv=.map (some d)∨sv.ownBlock=some d->S d) (h0:V'.cell? ⟨G,4,none⟩=some mv) (h1:V'.cell? ⟨G,5,none⟩=some sv) (h2:∀j,V'.frozen? ⟨G,j,none⟩=false):GS O lo G V' km ks mv sv fs:=by
 exact zz74
theorem GS.nM (h:GS O lo G V km ks mv sv fs) {M b:Nat} {n cap:Nat} (hm:mv=.map (some M)) (hs:sv=.slice (some ⟨b,0,none⟩) n cap):M≠b:=λe=>by
 exact zz82
theorem GS.Dh (h:GS O lo G V km ks (.map none) sv fs):GS O lo G ((V.alloc (.map #[] 0)).setCell ⟨G,4,none⟩ (.map (some V.heap.size))) km ks (.map (some V.heap.size)) sv fs:=by
 have VX:km=[]:=by
  rcases h.mp with ⟨h1,-⟩ | ⟨M,h1,-⟩
  .exact h1
  .cases h1
 subst VX;have hg:=h.hg;have hv:=h.hv;have k1:Kept (λ_=>True) V (V.alloc (.map #[] 0)):=Kept.alloc _ _ _;have h1:=h.kept k1;have k2:Kept (λd=>d≠G) (V.alloc (.map #[] 0)) ((V.alloc (.map #[] 0)).setCell ⟨G,4,none⟩ (.map (some V.heap.size))):=Kept.setCell _ _ _ _ (by simp);exact zz63
theorem GS.strips (h:GS O lo G V km ks mv sv fs) {V':World} (k:Kept (λd=>d < lo∨(∃M,mv=.map (some M)∧d=M)) V V') {ks':List (Nat×Nat)} {sv':Value} (ho:V'.ownsRow lo 188 5 sv' ks'.length (strs fs 0 ks')):GS O lo G (V'.setCell ⟨G,5,none⟩ sv') km ks' mv sv' fs:=by
 have hg:=h.hg;have hv:=h.hv;have k2:Kept (λd=>d≠G) V' (V'.setCell ⟨G,5,none⟩ sv'):=Kept.setCell _ _ _ _ (by simp);have c1:V'.cell? ⟨G,5,none⟩=some sv:=by rw [k.cell (p:=⟨G,5,none⟩) (by show G < _;omega) (.inl hg)];exact h.gs
 have z:=k.size;refine ⟨?_,World.cell?_setCell_same _ _ _ c1,λj=>?_,?_,aj ho k2 (λb e=>by have:=az ho b e;omega),λe he=>?_,by have:=k2.size;omega,hg⟩
 .rw [World.cell?_setCell_other _ _ _ _ (by simp),k.cell (p:=⟨G,4,none⟩) (by show G < _;omega) (.inl hg)];exact h.gm
 .rw [World.frozen?_setCell,k.frozen (p:=⟨G,j,none⟩) (by show G < _;omega) (.inl hg)];exact h.gf j
 .rcases h.mp with h1 | ⟨M,h1,h2,h3⟩
  .exact .inl h1
  .exact .inr ⟨M,h1,(h2.kept k (.inr ⟨M,h1,rfl⟩)).kept k2 (by omega),h3⟩
 .obtain ⟨h1,h2,h3⟩:=h.lv e he
  exact ⟨(h1.kept k h1.lt (.inl h2)).kept k2 (by omega) h3,h2,h3⟩
theorem GS.CE (h:GS O lo G V km ks mv sv fs) {V':World} {M:Nat} (hm:mv=.map (some M)) (hM:lo<=M) (hg':V.grownBy V' (some M)) {km':List (Nat×Nat)} (hp:MP V' M (bF O 0 km')) (hl:∀e∈km',aO V e.1∧e.1 < lo∧e.1≠G):GS O lo G V' km' ks mv sv fs:=by
 have hg:=h.hg;have hv:=h.hv;have k:Kept (λd=>d≠M) V V':=Kept.grown hg' (λb e hb=>hb (Option.some.inj e).symm);refine ⟨?_,?_,λj=>?_,.inr ⟨M,hm,hp,hM⟩,aj h.ow k (λb e=>?_),λe he=>?_,by have:=k.size;omega,hg⟩
 .rw [k.cell (p:=⟨G,4,none⟩) (by show G < _;omega) (by show G≠M;omega)];exact h.gm
 .rw [k.cell (p:=⟨G,5,none⟩) (by show G < _;omega) (by show G≠M;omega)];exact h.gs
 .rw [k.frozen (p:=⟨G,j,none⟩) (by show G < _;omega) (by show G≠M;omega)];exact h.gf j
 .rcases h.ow.2 with ⟨h3,-⟩ | ⟨b',cap',cur,h3,-⟩
  .rw [h3] at e;simp [Value.ownBlock] at e
  .have e1:b'=b:=by rw [h3] at e;exact Option.some.inj e
   rw [<- e1];exact λe2=>h.nM hm h3 e2.symm
 .obtain ⟨h1,h2,h3⟩:=hl e he
  exact ⟨h1.kept k h1.lt (by omega),h2,h3⟩
theorem GS.vo {b n cap:Nat} (h:GS O lo G V km ks mv (.slice (some ⟨b,0,none⟩) n cap) fs) {V':World} (k:Kept (λd=>d≠b) V V') {ks':List (Nat×Nat)} {fs':Nat->Int} (ho:V'.ownsRow lo 188 5 (.slice (some ⟨b,0,none⟩) n cap) ks'.length (strs fs' 0 ks')):GS O lo G V' km ks' mv (.slice (some ⟨b,0,none⟩) n cap) fs':=by
 have hg:=h.hg;have hv:=h.hv;have hb:=az h.ow b rfl;refine ⟨?_,?_,λj=>?_,?_,ho,λe he=>?_,by have:=k.size;omega,hg⟩
 .rw [k.cell (p:=⟨G,4,none⟩) (by show G < _;omega) (by show G≠b;omega)];exact h.gm
 .rw [k.cell (p:=⟨G,5,none⟩) (by show G < _;omega) (by show G≠b;omega)];exact h.gs
 .rw [k.frozen (p:=⟨G,j,none⟩) (by show G < _;omega) (by show G≠b;omega)];exact h.gf j
 .rcases h.mp with h1 | ⟨M,h1,h2,h3⟩
  .exact .inl h1
  .exact .inr ⟨M,h1,h2.kept k (h.nM h1 rfl),h3⟩
 .obtain ⟨h1,h2,h3⟩:=h.lv e he
  exact ⟨h1.kept k h1.lt (by omega),h2,h3⟩
end
variable {O:Nat->Nat}
theorem GS.slice {lo G:Nat} {V:World} {km ks:List (Nat×Nat)} {mv sv:Value} {fs:Nat->Int} (h:GS O lo G V km ks mv sv fs) (hn:0 < ks.length):∃b cap,sv=.slice (some ⟨b,0,none⟩) ks.length cap∧lo<=b∧b < V.heap.size∧ks.length<=cap:=by
 exact zz161
theorem nT {lo G:Nat} {V:World} {km ks:List (Nat×Nat)} {mv sv:Value} {fs:Nat->Int} (h:GS O lo G V km ks mv sv fs) (i j:Nat) (hi:i < ks.length) (hl:ks.length<=10000000):
  Calls Tryz.prog 104 #[.pointer (some ⟨G,4,none⟩),.agg #[.int .i64 i,.int .i64 j]] V λe V'=>e=.returned (.agg #[.int .i64 i,.int .i64 j])∧Kept (λ_=>True) V V':=by
 obtain ⟨b,cap,rfl,-,-,hcap⟩:=h.slice (by omega);have hic:i < cap:=by omega
 obtain ⟨V2,hV2⟩:∃V2,(V.alloc (.cells #[.int .i64 i,.int .i64 j] 182)).alloc (.cells #[.int .i64 0,.int .i64 0] 182)=V2:=⟨_,rfl⟩
 have k2:Kept (λ_=>True) V V2:=by rw [<- hV2];exact (Kept.alloc _ _ _).trans (Kept.alloc _ _ _)
 have q3:Bx V2 V.heap.size [.int .i64 i,.int .i64 j]:=by rw [<- hV2];exact (Bx.new _ _ _).kept (Kept.alloc (λ_=>True) _ _) trivial
 have q4:Bx V2 (V.heap.size+1) [.int .i64 0,.int .i64 0]:=by
  exact zz158
 obtain ⟨e,he⟩:∃e,ks[i]? =some e:=⟨ks[i],by simp [hi]⟩
 have gQ:Hid (∀V',Kept (λ_=>True) V2 V'->(V'.cell? ⟨G,5,none⟩=some (.slice (some ⟨b,0,none⟩) ks.length cap)∧V'.cell? ⟨b,i * 5,none⟩=some (.int .i64 i))∧(V'.cell? ⟨V.heap.size,0,none⟩=some (.int .i64 i)∧V'.cell? ⟨V.heap.size,1,none⟩=some (.int .i64 j))∧(V'.cell? ⟨V.heap.size+1,0,none⟩=some (.int .i64 0)∧V'.cell? ⟨V.heap.size+1,1,none⟩=some (.int .i64 0))∧V'.frozen? ⟨V.heap.size+1,0,none⟩=false∧V'.frozen? ⟨V.heap.size+1,1,none⟩=false):=λV' k=>by
  exact zz101
 have qW:=hide hV2;have yf:=hide k2;have f0:=gQ.out V2 (Kept.refl _ _);have f1:=gQ.out V2.drew (Kept.drew _ _);clear hV2 k2 q3 q4 h he e;go_enter Tryz.func104,Tryz.ntmps104;go_wp2_with fail;rw [qW.out]
 go_loopw [17] (λ_ wr=>wr=V2) (λ_ _=>0)
 case atStart=>rfl
 case round=>
  obtain rfl:V2=wr:=hrel.symm;clear hrel;have kC:Hid (∀V',Kept (λ_=>True) V2 V'->Kept (λ_=>True) V ((V'.setCell ⟨V.heap.size+1,0,none⟩ (.int .i64 i)).setCell ⟨V.heap.size+1,1,none⟩ (.int .i64 j))):=λV' k=>by
   exact zz51
  go_upto_region 1 with fail
  go_region
  all_goals
   go_wp2_with fail;refine bodyPost_ret (v:=.agg #[.int .i64 i,.int .i64 j]) (by simp [results,Tryz.results104,go_sem,f0]) rfl ⟨rfl,?_⟩;exact zz236
variable {O:Nat->Nat}
theorem GS.off {lo G:Nat} {V V':World} {km ks:List (Nat×Nat)} {mv sv:Value} {fs:Nat->Int} (h:GS O lo G V km ks mv sv fs) {x:Nat} (k:Kept (λd=>d≠x) V V') (hx:lo<=x) (hm:∀M,mv=.map (some M)->M≠x) (hr:∀b,sv.ownBlock=some b->b≠x):GS O lo G V' km ks mv sv fs:=by
 have hg:=h.hg;have hv:=h.hv;refine ⟨?_,?_,λj=>?_,?_,aj h.ow k (λb e=>hr b e),λe he=>?_,by have:=k.size;omega,hg⟩
 .rw [k.cell (p:=⟨G,4,none⟩) (by show G < _;omega) (by show G≠x;omega)];exact h.gm
 .rw [k.cell (p:=⟨G,5,none⟩) (by show G < _;omega) (by show G≠x;omega)];exact h.gs
 .rw [k.frozen (p:=⟨G,j,none⟩) (by show G < _;omega) (by show G≠x;omega)];exact h.gf j
 .rcases h.mp with h1 | ⟨M,h1,h2,h3⟩
  .exact .inl h1
  .exact .inr ⟨M,h1,h2.kept k (hm M h1),h3⟩
 .obtain ⟨h1,h2,h3⟩:=h.lv e he
  exact ⟨h1.kept k h1.lt (by omega),h2,h3⟩
theorem GS.map {lo G:Nat} {V:World} {km ks:List (Nat×Nat)} {sv:Value} {fs:Nat->Int} {M:Nat} (h:GS O lo G V km ks (.map (some M)) sv fs):MP V M (bF O 0 km)∧lo<=M∧M < V.heap.size:=by
 exact zz206
theorem rG (M:Nat) (w:World):(binOp .eql 136 (.map (some M)) (.map none)).run Tryz.prog w=.ok (.bool false) w:=by kernel_rfl
theorem yZ (w:World):(binOp .eql 136 (.map none) (.map none)).run Tryz.prog w=.ok (.bool true) w:=by kernel_rfl
theorem wD (fs:Nat->Int) (K:List (Nat×Nat)) (b n n':Nat):∃xs ys,strs fs 0 (K++[(b,n)])=xs++.int .i64 n ::ys∧strs fs 0 (K++[(b,n')])=xs++.int .i64 n' ::ys∧xs.length=K.length * 5+3:=by
 exact zz138
structure PT (O:Nat->Nat) (lo G:Nat) (X:World) (K:List (Nat×Nat)) (b n i M r cap x6:Nat) (fs:Nat->Int) (V3:World):Prop where
 run:(Instr.mapUpdate 136 (.map (some M)) (.pointer (some ⟨b,O b+n * 9,none⟩)) (.agg #[.int .i64 i,.int .i64 n])).run Tryz.prog (X.alloc (.cells #[.int .i64 i,.int .i64 n] 182)).drew=.ok () V3
 a1:X.cell? ⟨G,5,none⟩=some (.slice (some ⟨r,0,none⟩) (i+1) cap)
 a2:X.cell? ⟨r,i * 5+3,none⟩=some (.int .i64 n)
 b0:(X.alloc (.cells #[.int .i64 i,.int .i64 n] 182)).cell? ⟨G,4,none⟩=some (.map (some M))
 b0':(X.alloc (.cells #[.int .i64 i,.int .i64 n] 182)).drew.cell? ⟨G,4,none⟩=some (.map (some M))
 d1:V3.cell? ⟨G,5,none⟩=some (.slice (some ⟨r,0,none⟩) (i+1) cap)
 d2:V3.cell? ⟨r,i * 5+3,none⟩=some (.int .i64 n)
 d3:V3.frozen? ⟨r,i * 5+3,none⟩=false
 f0:(V3.setCell ⟨r,i * 5+3,none⟩ (.int .i64 ((n:Int)+1))).cell? ⟨X.heap.size,0,none⟩=some (.int .i64 i)
 f1:(V3.setCell ⟨r,i * 5+3,none⟩ (.int .i64 ((n:Int)+1))).cell? ⟨X.heap.size,1,none⟩=some (.int .i64 n)
 g0:(V3.setCell ⟨r,i * 5+3,none⟩ (.int .i64 ((n:Int)+1))).cell? ⟨x6,0,none⟩=some (.int .i64 0)
 g1:(V3.setCell ⟨r,i * 5+3,none⟩ (.int .i64 ((n:Int)+1))).cell? ⟨x6,1,none⟩=some (.int .i64 0)
 g2:(V3.setCell ⟨r,i * 5+3,none⟩ (.int .i64 ((n:Int)+1))).frozen? ⟨x6,0,none⟩=false
 g3:(V3.setCell ⟨r,i * 5+3,none⟩ (.int .i64 ((n:Int)+1))).frozen? ⟨x6,1,none⟩=false
 fin:GS O lo G (((V3.setCell ⟨r,i * 5+3,none⟩ (.int .i64 ((n:Int)+1))).setCell ⟨x6,0,none⟩ (.int .i64 i)).setCell ⟨x6,1,none⟩ (.int .i64 n)) (K++[(b,n+1)]) (K++[(b,n+1)]) (.map (some M)) (.slice (some ⟨r,0,none⟩) (i+1) cap) fs∧Kept (λd=>d≠M∧d≠r∧d≠x6) X (((V3.setCell ⟨r,i * 5+3,none⟩ (.int .i64 ((n:Int)+1))).setCell ⟨x6,0,none⟩ (.int .i64 i)).setCell ⟨x6,1,none⟩ (.int .i64 n))
theorem lH {lo G:Nat} {X:World} {K:List (Nat×Nat)} {b n i M r cap x6:Nat} {fs:Nat->Int} (hi:K.length=i) (h:GS O lo G X (K++[(b,n)]) (K++[(b,n)]) (.map (some M)) (.slice (some ⟨r,0,none⟩) (i+1) cap) fs) (hb:∀e∈K,e.1≠b) (q6:Bx X x6 [.int .i64 0,.int .i64 0]) (h6:lo<=x6) (ME:M≠x6) (MF:r≠x6):
  ∃V3,PT O lo G X K b n i M r cap x6 fs V3:=by
 obtain ⟨m1,m2,m3⟩:=h.map;have hrl:lo<=r∧r < X.heap.size∧i+1<=cap:=by
  exact zz115
 have rH:=h.nM rfl rfl;have h6x:=q6.lt;have k2:Kept (λ_=>True) X (X.alloc (.cells #[.int .i64 i,.int .i64 n] 182)):=Kept.alloc _ _ _;have q7:Bx (X.alloc (.cells #[.int .i64 i,.int .i64 n] 182)) X.heap.size [.int .i64 i,.int .i64 n]:=Bx.new _ _ _;have h2:=h.kept k2;have uj:=h2.kept (Kept.drew _ _);obtain ⟨V3,hput,MH,hg3⟩:=uj.map.1.MJ (λp hp=>by
  obtain ⟨k,e,e1,e2,-⟩:=dG 0 _ p hp;rw [e2];exact (uj.lv e (List.mem_of_getElem? e1)).1) (b,O b+n * 9) (uj.lv (b,n) (by simp)).1 (nO hb) (i,n)
 exact zz5
theorem CF {lo G:Nat} {V:World} {K:List (Nat×Nat)} {b n M r cap i:Nat} {fs:Nat->Int} (hi:K.length=i) (h:GS O lo G V (K++[(b,n)]) (K++[(b,n)]) (.map (some M)) (.slice (some ⟨r,0,none⟩) (i+1) cap) fs) (hb:∀e∈K,e.1≠b) (hl:i<=10000000) (hn:n<=10000000):
  Calls Tryz.prog 103 #[.pointer (some ⟨G,4,none⟩),.pointer (some ⟨b,O b+n * 9,none⟩),.int .i64 i] V λe V'=>e=.returned (.agg #[.int .i64 i,.int .i64 n])∧GS O lo G V' (K++[(b,n+1)]) (K++[(b,n+1)]) (.map (some M)) (.slice (some ⟨r,0,none⟩) (i+1) cap) fs∧Kept (λd=>d≠M∧d≠r) V V':=by
 have k1:Kept (λ_=>True) V (V.alloc (.cells #[.int .i64 0,.int .i64 0] 182)):=Kept.alloc _ _ _;obtain ⟨m1,m2,m3⟩:=h.map;have hrl:lo<=r∧r < V.heap.size∧i+1<=cap:=by
  exact zz115
 obtain ⟨V1,hV1⟩:∃V1,V.alloc (.cells #[.int .i64 0,.int .i64 0] 182)=V1:=⟨_,rfl⟩
 have z1:V1.heap.size=V.heap.size+1:=by rw [<- hV1];simp
 rw [hV1] at k1;have h1:=h.kept k1;have q6:Bx V1 V.heap.size [.int .i64 0,.int .i64 0]:=by rw [<- hV1];exact Bx.new _ _ _
 obtain ⟨V3,pt⟩:=lH hi h1 hb q6 h.hv (by omega) (by omega);have fU:=hide k1;have dh:=hide pt;have a0:=h1.gm;have a1:=pt.a1;have a2:=pt.a2;have hic:i < cap:=by omega
 have gD:=hide hV1;have HZ1:=hide z1;have rq:=rG M;clear hV1 k1 pt h1 q6 h hb m1 m2 m3 hrl z1 hi;go_enter Tryz.func103,Tryz.ntmps103
 go_upto_region 1 with fail
 rw [gD.out];clear gD
 go_upto_region 7 with fail
 have b0:=dh.out.b0;have b0':=dh.out.b0';have rp:=dh.out.run;have b1:(V1.alloc (.cells #[.int .i64 i,.int .i64 n] 182)).cell? ⟨V1.heap.size,0,none⟩=some (.int .i64 i):=by simp
 have b2:(V1.alloc (.cells #[.int .i64 i,.int .i64 n] 182)).cell? ⟨V1.heap.size,1,none⟩=some (.int .i64 n):=by simp
 obtain ⟨V2,hV2⟩:∃V2,V1.alloc (.cells #[.int .i64 i,.int .i64 n] 182)=V2:=⟨_,rfl⟩
 rw [hV2] at b0 b0' b1 b2 rp;have b1':V2.drew.cell? ⟨V1.heap.size,0,none⟩=some (.int .i64 i):=b1;have b2':V2.drew.cell? ⟨V1.heap.size,1,none⟩=some (.int .i64 n):=b2;rw [hV2];clear a0 a1 a2 hV2
 go_region
 all_goals
  clear rq rp b0 b0' b1 b2 b1' b2';have d1:=dh.out.d1;have d2:=dh.out.d2;have d3:=dh.out.d3
  go_upto_region 9 with fail
  have f0:=dh.out.f0;have f1:=dh.out.f1;have g0:=dh.out.g0;have g1:=dh.out.g1;have g2:=dh.out.g2;have g3:=dh.out.g3;obtain ⟨V4,jD⟩:∃V4,V3.setCell ⟨r,i * 5+3,none⟩ (.int .i64 ((n:Int)+1))=V4:=⟨_,rfl⟩
  have hfin:=dh.out.fin;rw [jD] at f0 f1 g0 g1 g2 g3 hfin;rw [jD];have kC:=hide hfin;clear d1 d2 d3 jD hfin;go_wp2_with fail;refine bodyPost_ret (v:=.agg #[.int .i64 i,.int .i64 n]) (by simp [results,Tryz.results103,go_sem,g0,g1]) rfl ⟨rfl,kC.out.1,?_⟩;exact zz200
end Go.Proofs.YthfnobboalhihaaGreat.A
namespace Go.Proofs.YthfnobboalhihaaGreat
open Go.RowKit Go.Joins
theorem zz3 {P:Prop} (h:P:=by
 have rH:∀d,(Value.slice a i cap0).ownBlock=some d->d≠M∧d≠V.heap.size∧lo<=d:=λd e=>by
  exact zz42
 have kG:Kept (λd=>d < lo∨(∃M',Value.map (some M)=.map (some M')∧d=M')) VR W':=Kept.grown o2 (λd e hd=>by
  obtain ⟨x1,x2,x3⟩:=rH d e;rcases hd with hd | ⟨M',e1,e2⟩
  .omega
  .cases e1;exact x1 e2)
 have kX:Kept (λd=>d=V.heap.size) VR W':=Kept.grown o2 (λd e hd=>(rH d e).2.1 hd);have e5:strs zf 0 (K++[(b,0)])=strs zf 0 K++[.int .i64 i,.int .i64 0,.int .i64 0,.int .i64 0,.int .i64 0]:=by rw [eB];simp [strs,zf,hi]
 have g1:=hR.strips kG (ks':=K++[(b,0)]) (sv':=.slice (some ⟨r,0,none⟩) (i+1) cap) (by rw [e5,List.length_append,hi];exact o1);have kS:Kept (λd=>d≠G) W' (W'.setCell ⟨G,5,none⟩ (.slice (some ⟨r,0,none⟩) (i+1) cap)):=Kept.setCell _ _ _ _ (by simp);have zR:=kR.size;have zm:=kM.size;have lR:aO (W'.setCell ⟨G,5,none⟩ (.slice (some ⟨r,0,none⟩) (i+1) cap)) b:=((lM.all kR).kept kG (lM.all kR).lt (.inl lb.2.1)).kept kS (((lM.all kR).kept kG (lM.all kR).lt (.inl lb.2.1)).lt) lb.2.2;have kO:Kept (λd=>(Value.slice a i cap0).ownBlock≠some d) VR W':=Kept.grown o2 (λd e hd=>hd e);have zV:V.heap.size<=VR.heap.size:=by have:=qM.lt;omega
 have hdr:∀d,d < V.heap.size->(Value.slice a i cap0).ownBlock≠some d->d≠r:=λd hd ho e=>by
  rcases o3 with o3 | o3
  .exact ho (by rw [e];exact o3)
  .omega
 have Io:(Value.slice a i cap0).ownBlock=some r∨V.heap.size<=r:=by
  rcases o3 with o3 | o3
  .exact .inl o3
  .exact .inr (by omega)
 have Ip:∀j,j≠4->j≠5->(W'.setCell ⟨G,5,none⟩ (.slice (some ⟨r,0,none⟩) (i+1) cap)).cell? ⟨G,j,none⟩=V.cell? ⟨G,j,none⟩:=λj j0 j1=>by
  exact zz119
 have qz:r≠V.heap.size:=by
  exact zz178
 exact ⟨⟨kG.cell (p:=⟨G,5,none⟩) (by show G < _;omega) (.inl gG) |>.trans hR.gs,kG.frozen (p:=⟨G,5,none⟩) (by show G < _;omega) (.inl gG) |>.trans (hR.gf 5)⟩,by have:=(ownsRow_le o1).2.2.1;omega,⟨(kM.mono (λd _ hd=>hd.1)).trans ((kR.mono (λ_ _ _=>trivial)).trans ((kO.mono (λd _ hd=>hd.2)).trans (kS.mono (λd _ hd=>hd.1)))),Ip,hdr,Io,(ownsRow_le o1).1⟩,trivial,GS.conv rfl g1 ⟨lR,lb.2.1,lb.2.2⟩,((qM.kept kR trivial).kept kX rfl).kept kS (by omega),qz⟩):P:=h
end Go.Proofs.YthfnobboalhihaaGreat
namespace Go.Proofs.YthfnobboalhihaaGreat.A
open Go.RowKit Go.Joins
variable {O:Nat->Nat}
def zf:Nat->Int:=λ_=>0
structure Vm (O:Nat->Nat) (lo G:Nat) (X:World) (K:List (Nat×Nat)) (b i M r cap x6:Nat) (V3:World):Prop where
 run:(Instr.mapUpdate 136 (.map (some M)) (.pointer (some ⟨b,O b,none⟩)) (.agg #[.int .i64 i,.int .i64 0])).run Tryz.prog (X.alloc (.cells #[.int .i64 i,.int .i64 0] 182)).drew=.ok () V3
 a1:X.cell? ⟨G,5,none⟩=some (.slice (some ⟨r,0,none⟩) (i+1) cap)
 a2:X.cell? ⟨r,i * 5+3,none⟩=some (.int .i64 0)
 b0:(X.alloc (.cells #[.int .i64 i,.int .i64 0] 182)).cell? ⟨G,4,none⟩=some (.map (some M))
 b0':(X.alloc (.cells #[.int .i64 i,.int .i64 0] 182)).drew.cell? ⟨G,4,none⟩=some (.map (some M))
 d1:V3.cell? ⟨G,5,none⟩=some (.slice (some ⟨r,0,none⟩) (i+1) cap)
 d2:V3.cell? ⟨r,i * 5+3,none⟩=some (.int .i64 0)
 d3:V3.frozen? ⟨r,i * 5+3,none⟩=false
 f0:(V3.setCell ⟨r,i * 5+3,none⟩ (.int .i64 1)).cell? ⟨X.heap.size,0,none⟩=some (.int .i64 i)
 f1:(V3.setCell ⟨r,i * 5+3,none⟩ (.int .i64 1)).cell? ⟨X.heap.size,1,none⟩=some (.int .i64 0)
 g0:(V3.setCell ⟨r,i * 5+3,none⟩ (.int .i64 1)).cell? ⟨x6,0,none⟩=some (.int .i64 0)
 g1:(V3.setCell ⟨r,i * 5+3,none⟩ (.int .i64 1)).cell? ⟨x6,1,none⟩=some (.int .i64 0)
 g2:(V3.setCell ⟨r,i * 5+3,none⟩ (.int .i64 1)).frozen? ⟨x6,0,none⟩=false
 g3:(V3.setCell ⟨r,i * 5+3,none⟩ (.int .i64 1)).frozen? ⟨x6,1,none⟩=false
 fin:GS O lo G (((V3.setCell ⟨r,i * 5+3,none⟩ (.int .i64 1)).setCell ⟨x6,0,none⟩ (.int .i64 i)).setCell ⟨x6,1,none⟩ (.int .i64 0)) (K++[(b,1)]) (K++[(b,1)]) (.map (some M)) (.slice (some ⟨r,0,none⟩) (i+1) cap) zf∧Kept (λd=>d≠M∧d≠r∧d≠x6) X (((V3.setCell ⟨r,i * 5+3,none⟩ (.int .i64 1)).setCell ⟨x6,0,none⟩ (.int .i64 i)).setCell ⟨x6,1,none⟩ (.int .i64 0))
theorem PT.zero {lo G:Nat} {X:World} {K:List (Nat×Nat)} {b i M r cap x6:Nat} {V3:World} (h:PT O lo G X K b 0 i M r cap x6 zf V3):Vm O lo G X K b i M r cap x6 V3:=by
 obtain ⟨h1,h2,h3,h4,h5,h6,h7,h8,h9,h10,h11,h12,Ik,Il,Im⟩:=h;have e0:((0:Nat):Int)=0:=rfl;have e1:(0:Int)+1=1:=rfl;have e2:O b+0 * 9=O b:=rfl;exact zz139
theorem GS.conv {lo G:Nat} {V:World} {K ks:List (Nat×Nat)} {mv sv:Value} {fs:Nat->Int} {M b:Nat} (hm:mv=.map (some M)) (h:GS O lo G V K ks mv sv fs) (hb:aO V b∧b < lo∧b≠G):GS O lo G V (K++[(b,0)]) ks mv sv fs:=by
 exact zz73
theorem GS.ng {lo G:Nat} {V:World} {km ks:List (Nat×Nat)} {mv sv:Value} {fs:Nat->Int} (h:GS O lo G V km ks mv sv fs):∃a cap,sv=.slice a ks.length cap:=by
 exact zz187
theorem Tryz.info188:(Tryz.prog.info? 188).map (λi=>(i.zero,i.size,i.bytes))=some (some (.agg #[.int .i64 0,.int .i64 0,.int .i64 0,.int .i64 0,.int .i64 0]),5,40):=by kernel_rfl
theorem CV {lo G:Nat} {V:World} {K:List (Nat×Nat)} {b M i:Nat} {sv:Value} (hi:K.length=i) (h:GS O lo G V K K (.map (some M)) sv zf) (hb:∀e∈K,e.1≠b) (lb:aO V b∧b < lo∧b≠G) (hl:i<=10000000):
  Calls Tryz.prog 103 #[.pointer (some ⟨G,4,none⟩),.pointer (some ⟨b,O b,none⟩),.int .i64 (-1)] V λe V'=>∃r cap,e=.returned (.agg #[.int .i64 i,.int .i64 0])∧GS O lo G V' (K++[(b,1)]) (K++[(b,1)]) (.map (some M)) (.slice (some ⟨r,0,none⟩) (i+1) cap) zf∧Kept (λd=>d≠G∧d≠M∧sv.ownBlock≠some d) V V'∧(∀j,j≠4->j≠5->V'.cell? ⟨G,j,none⟩=V.cell? ⟨G,j,none⟩)∧True∧(sv.ownBlock=some r∨V.heap.size<=r):=by
 obtain ⟨a,cap0,hsv⟩:=h.ng;rw [hi] at hsv;subst hsv;obtain ⟨VB,nX⟩:∃VB,V.alloc (.cells #[.int .i64 0,.int .i64 0] 182)=VB:=⟨_,rfl⟩
 have zB:VB.heap.size=V.heap.size+1:=by rw [<- nX];simp
 have kB:Kept (λ_=>True) V VB:=by rw [<- nX];exact Kept.alloc _ _ _
 have qB:Bx VB V.heap.size [.int .i64 0,.int .i64 0]:=by rw [<- nX];exact Bx.new _ _ _
 have hB:=h.kept kB;obtain ⟨VM,lN⟩:∃VM,VB=VM:=⟨_,rfl⟩
 have gG:=hB.hg;have gV:=h.hv;have kM:Kept (λd=>d≠G) V VM:=by rw [<- lN];exact kB.mono (λ_ _ _=>trivial)
 have qM:Bx VM V.heap.size [.int .i64 0,.int .i64 0]:=by rw [<- lN];exact qB
 have hM:GS O lo G VM K K (.map (some M)) (.slice a i cap0) zf:=by rw [<- lN];exact hB
 have zM:M≠V.heap.size:=by have:=h.map.2.2;omega
 have zU:∀j,j≠4->VM.cell? ⟨G,j,none⟩=V.cell? ⟨G,j,none⟩:=λj _=>by
  rw [<- lN,kB.cell (p:=⟨G,j,none⟩) (by show G < _;omega) trivial]
 have lM:aO VM b:=lb.1.kept kM lb.1.lt lb.2.2;have c0:=hB.gm;have rY:=hM.ow;rw [hi] at rY;obtain ⟨VR,qy⟩:∃VR,VM.alloc (.cells #[.int .i64 i,.int .i64 0,.int .i64 0,.int .i64 0,.int .i64 0] 188)=VR:=⟨_,rfl⟩
 have kR:Kept (λ_=>True) VM VR:=by rw [<- qy];exact Kept.alloc _ _ _
 have hR:=hM.kept kR;have HN:Hid (VR.heap[VM.heap.size]? =some (.cells #[.int .i64 i,.int .i64 0,.int .i64 0,.int .i64 0,.int .i64 0] 188)):=by unfold Hid;rw [<- qy];exact bH _ _
 have HOW:Hid (VR.ownsRow lo 188 5 (.slice a i cap0) i (strs zf 0 K)):=by have:=hR.ow;rw [hi] at this;exact this
 have HZ:=hide hR.hv;have h63:Hid (i+1<=maxLen∧(i+1)* 40<=140737488355328):=⟨by unfold maxLen;omega,by omega⟩
 have iV:Hid (∀r cap W',W'.ownsRow lo 188 5 (.slice (some ⟨r,0,none⟩) (i+1) cap) (i+1) (strs zf 0 K++[.int .i64 i,.int .i64 0,.int .i64 0,.int .i64 0,.int .i64 0])->VR.grownBy W' (Value.slice a i cap0).ownBlock->((Value.slice a i cap0).ownBlock=some r∨r=VR.heap.size)->(W'.cell? ⟨G,5,none⟩=some (.slice a i cap0)∧W'.frozen? ⟨G,5,none⟩=false)∧i < cap∧(Kept (λd=>d≠G∧(Value.slice a i cap0).ownBlock≠some d) V (W'.setCell ⟨G,5,none⟩ (.slice (some ⟨r,0,none⟩) (i+1) cap))∧(∀j,j≠4->j≠5->(W'.setCell ⟨G,5,none⟩ (.slice (some ⟨r,0,none⟩) (i+1) cap)).cell? ⟨G,j,none⟩=V.cell? ⟨G,j,none⟩)∧(∀d,d < V.heap.size->(Value.slice a i cap0).ownBlock≠some d->d≠r)∧((Value.slice a i cap0).ownBlock=some r∨V.heap.size<=r)∧lo<=r)∧True∧GS O lo G (W'.setCell ⟨G,5,none⟩ (.slice (some ⟨r,0,none⟩) (i+1) cap)) (K++[(b,0)]) (K++[(b,0)]) (.map (some M)) (.slice (some ⟨r,0,none⟩) (i+1) cap) zf∧Bx (W'.setCell ⟨G,5,none⟩ (.slice (some ⟨r,0,none⟩) (i+1) cap)) V.heap.size [.int .i64 0,.int .i64 0]∧r≠V.heap.size):=λr cap W' o1 o2 o3=>by
  exact zz3
 have Iq:=hide zM;have Ir:=hide hi;have Iu:=hide hb;have zW:=hide gV;have d1:=hM.gs;have wZ:=hide lN;have zZ:=hide qy;have vH:=hide nX;have rq:=rG M;clear lN qy nX kB zB qB hB kM qM hM lM kR hR rY lb hb h gG gV zM zU hi;go_enter Tryz.func103,Tryz.ntmps103
 go_upto_region 1 with fail
 rw [vH.out,wZ.out];rw [wZ.out] at c0;clear vH wZ
 go_upto_region 6 with (at_builtin;rw [zZ.out];refine iB rfl _ _ 86 188 rfl Tryz.info188 Tryz.underlying86 rfl (by decide) lo VR (.slice a i cap0) i (strs zf 0 K) [.int .i64 i,.int .i64 0,.int .i64 0,.int .i64 0,.int .i64 0] _ _ rfl rfl HZ.out HOW.out HN.out rfl (by simp [Value.oneCell']) h63.out.1 h63.out.2 ?_;intro r cap w3 gX fB rW;have jF:=hide (iV.out r cap w3 gX fB rW);have x1:=jF.out.1.1;have x2:=jF.out.1.2;clear gX fB rW)
 obtain ⟨V1,hV1⟩:∃V1,w3.setCell ⟨G,5,none⟩ (.slice (some ⟨r,0,none⟩) (i+1) cap)=V1:=⟨_,rfl⟩
 have z8:=jF.out.2;rw [hV1] at z8;obtain ⟨hic,⟨hk1,hgc,hdr,ho3,hlr⟩,-,hg1,q6,qz⟩:=z8;have HX:Hid ((∀j,j≠4->j≠5->V1.cell? ⟨G,j,none⟩=V.cell? ⟨G,j,none⟩)∧(∀d,d < V.heap.size->(Value.slice a i cap0).ownBlock≠some d->d≠r)∧((Value.slice a i cap0).ownBlock=some r∨V.heap.size<=r)∧G < V1.heap.size∧G≠M∧G≠r∧G≠V.heap.size):=⟨hgc,hdr,ho3,by have:=hg1.hg;have:=hg1.hv;omega,by have:=hg1.hg;have:=hg1.map.2.1;omega,by have:=hg1.hg;omega,by have:=hg1.hg;have:=zW.out;omega⟩
 clear hgc hdr ho3 hlr;obtain ⟨V3,Aa⟩:=lH Ir.out hg1 Iu.out q6 zW.out Iq.out qz;have pt:=Aa.zero;rw [hV1];have fU:=hide hk1;have dh:=hide pt;have a0:=hg1.gm;have a1:=pt.a1;have a2:=pt.a2;clear hV1 jF x1 x2 hk1 hg1 q6 qz pt Aa iV HN HOW HZ h63 zZ d1 c0 rq
 go_upto_region 7 with fail
 have b0:=dh.out.b0;have b0':=dh.out.b0';have rp:=dh.out.run;have b1:(V1.alloc (.cells #[.int .i64 i,.int .i64 0] 182)).cell? ⟨V1.heap.size,0,none⟩=some (.int .i64 i):=by simp
 have b2:(V1.alloc (.cells #[.int .i64 i,.int .i64 0] 182)).cell? ⟨V1.heap.size,1,none⟩=some (.int .i64 0):=by simp
 obtain ⟨V2,hV2⟩:∃V2,V1.alloc (.cells #[.int .i64 i,.int .i64 0] 182)=V2:=⟨_,rfl⟩
 rw [hV2] at b0 b0' b1 b2 rp;have b1':V2.drew.cell? ⟨V1.heap.size,0,none⟩=some (.int .i64 i):=b1;have b2':V2.drew.cell? ⟨V1.heap.size,1,none⟩=some (.int .i64 0):=b2;rw [hV2];clear a0 a1 a2 hV2
 go_region
 all_goals
  clear rp b0 b0' b1 b2 b1' b2';have d1:=dh.out.d1;have d2:=dh.out.d2;have d3:=dh.out.d3
  go_upto_region 9 with fail
  have f0:=dh.out.f0;have f1:=dh.out.f1;have g0:=dh.out.g0;have g1:=dh.out.g1;have g2:=dh.out.g2;have g3:=dh.out.g3;obtain ⟨V4,jD⟩:∃V4,V3.setCell ⟨r,i * 5+3,none⟩ (.int .i64 (1))=V4:=⟨_,rfl⟩
  have hfin:=dh.out.fin;rw [jD] at f0 f1 g0 g1 g2 g3 hfin;rw [jD];have kC:=hide hfin;clear d1 d2 d3 jD hfin;go_wp2_with fail;refine bodyPost_ret (v:=.agg #[.int .i64 i,.int .i64 0]) (by simp [results,Tryz.results103,go_sem,g0,g1]) rfl ⟨r,cap,rfl,kC.out.1,?_,λj j0 j1=>(kC.out.2.cell (p:=⟨G,j,none⟩) HX.out.2.2.2.1 HX.out.2.2.2.2).trans (HX.out.1 j j0 j1),trivial,HX.out.2.2.1⟩;exact zz75
theorem CU {lo G:Nat} {V:World} {K:List (Nat×Nat)} {b i:Nat} {sv:Value} (hi:K.length=i) (h:GS O lo G V K K (.map none) sv zf) (hb:∀e∈K,e.1≠b) (lb:aO V b∧b < lo∧b≠G) (hl:i<=10000000):
  Calls Tryz.prog 103 #[.pointer (some ⟨G,4,none⟩),.pointer (some ⟨b,O b,none⟩),.int .i64 (-1)] V λe V'=>∃M r cap,e=.returned (.agg #[.int .i64 i,.int .i64 0])∧GS O lo G V' (K++[(b,1)]) (K++[(b,1)]) (.map (some M)) (.slice (some ⟨r,0,none⟩) (i+1) cap) zf∧Kept (λd=>d≠G∧sv.ownBlock≠some d) V V'∧(∀j,j≠4->j≠5->V'.cell? ⟨G,j,none⟩=V.cell? ⟨G,j,none⟩)∧V.heap.size<=M∧(sv.ownBlock=some r∨V.heap.size<=r):=by
 obtain ⟨a,cap0,hsv⟩:=h.ng;rw [hi] at hsv;subst hsv;obtain ⟨VB,nX⟩:∃VB,V.alloc (.cells #[.int .i64 0,.int .i64 0] 182)=VB:=⟨_,rfl⟩
 have zB:VB.heap.size=V.heap.size+1:=by rw [<- nX];simp
 have kB:Kept (λ_=>True) V VB:=by rw [<- nX];exact Kept.alloc _ _ _
 have qB:Bx VB V.heap.size [.int .i64 0,.int .i64 0]:=by rw [<- nX];exact Bx.new _ _ _
 have hB:=h.kept kB;obtain ⟨M,hMe⟩:∃M,VB.heap.size=M:=⟨_,rfl⟩
 obtain ⟨VA,Iw⟩:∃VA,VB.alloc (.map #[] 0)=VA:=⟨_,rfl⟩
 have rm:=Bv VB;have hM':=hB.Dh;rw [Iw,hMe] at rm hM';obtain ⟨VM,lN⟩:∃VM,VA.setCell ⟨G,4,none⟩ (.map (some M))=VM:=⟨_,rfl⟩
 rw [lN] at hM';have gG:=hB.hg;have gV:=h.hv;have kA:Kept (λ_=>True) VB VA:=by rw [<- Iw];exact Kept.alloc _ _ _
 have kM:Kept (λd=>d≠G) V VM:=by rw [<- lN];exact (kB.mono (λ_ _ _=>trivial)).trans ((kA.mono (λ_ _ _=>trivial)).trans (Kept.setCell _ _ _ _ (by simp)))
 have qM:Bx VM V.heap.size [.int .i64 0,.int .i64 0]:=by rw [<- lN];exact (qB.kept kA trivial).kept (Kept.setCell (λd=>d≠G) _ _ _ (by simp)) (by omega)
 have hM:GS O lo G VM K K (.map (some M)) (.slice a i cap0) zf:=hM';have zM:M≠V.heap.size:=by omega
 have zU:∀j,j≠4->VM.cell? ⟨G,j,none⟩=V.cell? ⟨G,j,none⟩:=λj j0=>by
  exact zz124
 have NV:V.heap.size<=M:=by omega
 have n0:VA.cell? ⟨G,4,none⟩=some (.map none):=(kA.cell (p:=⟨G,4,none⟩) (by show G < _;omega) trivial).trans hB.gm;have n1:VA.frozen? ⟨G,4,none⟩=false:=(kA.frozen (p:=⟨G,4,none⟩) (by show G < _;omega) trivial).trans (hB.gf 4);clear hM' Iw hMe kA;have lM:aO VM b:=lb.1.kept kM lb.1.lt lb.2.2;have c0:=hB.gm;have rY:=hM.ow;rw [hi] at rY;obtain ⟨VR,qy⟩:∃VR,VM.alloc (.cells #[.int .i64 i,.int .i64 0,.int .i64 0,.int .i64 0,.int .i64 0] 188)=VR:=⟨_,rfl⟩
 have kR:Kept (λ_=>True) VM VR:=by rw [<- qy];exact Kept.alloc _ _ _
 have hR:=hM.kept kR;have HN:Hid (VR.heap[VM.heap.size]? =some (.cells #[.int .i64 i,.int .i64 0,.int .i64 0,.int .i64 0,.int .i64 0] 188)):=by unfold Hid;rw [<- qy];exact bH _ _
 have HOW:Hid (VR.ownsRow lo 188 5 (.slice a i cap0) i (strs zf 0 K)):=by have:=hR.ow;rw [hi] at this;exact this
 have HZ:=hide hR.hv;have h63:Hid (i+1<=maxLen∧(i+1)* 40<=140737488355328):=⟨by unfold maxLen;omega,by omega⟩
 have iV:Hid (∀r cap W',W'.ownsRow lo 188 5 (.slice (some ⟨r,0,none⟩) (i+1) cap) (i+1) (strs zf 0 K++[.int .i64 i,.int .i64 0,.int .i64 0,.int .i64 0,.int .i64 0])->VR.grownBy W' (Value.slice a i cap0).ownBlock->((Value.slice a i cap0).ownBlock=some r∨r=VR.heap.size)->(W'.cell? ⟨G,5,none⟩=some (.slice a i cap0)∧W'.frozen? ⟨G,5,none⟩=false)∧i < cap∧(Kept (λd=>d≠G∧(Value.slice a i cap0).ownBlock≠some d) V (W'.setCell ⟨G,5,none⟩ (.slice (some ⟨r,0,none⟩) (i+1) cap))∧(∀j,j≠4->j≠5->(W'.setCell ⟨G,5,none⟩ (.slice (some ⟨r,0,none⟩) (i+1) cap)).cell? ⟨G,j,none⟩=V.cell? ⟨G,j,none⟩)∧(∀d,d < V.heap.size->(Value.slice a i cap0).ownBlock≠some d->d≠r)∧((Value.slice a i cap0).ownBlock=some r∨V.heap.size<=r)∧lo<=r)∧True∧GS O lo G (W'.setCell ⟨G,5,none⟩ (.slice (some ⟨r,0,none⟩) (i+1) cap)) (K++[(b,0)]) (K++[(b,0)]) (.map (some M)) (.slice (some ⟨r,0,none⟩) (i+1) cap) zf∧Bx (W'.setCell ⟨G,5,none⟩ (.slice (some ⟨r,0,none⟩) (i+1) cap)) V.heap.size [.int .i64 0,.int .i64 0]∧r≠V.heap.size):=λr cap W' o1 o2 o3=>by
  exact zz3
 have Iq:=hide zM;have NW:=hide NV;have Ir:=hide hi;have Iu:=hide hb;have zW:=hide gV;have d1:=hM.gs;have wZ:=hide lN;have zZ:=hide qy;have vH:=hide nX;have rq:=yZ;clear lN qy nX kB zB qB hB kM qM hM lM kR hR rY lb hb h gG gV zM NV zU hi;go_enter Tryz.func103,Tryz.ntmps103
 go_upto_region 1 with fail
 rw [vH.out];clear vH
 go_upto_region 3 with fail
 rw [wZ.out];clear wZ rm n0 n1
 go_upto_region 6 with (at_builtin;rw [zZ.out];refine iB rfl _ _ 86 188 rfl Tryz.info188 Tryz.underlying86 rfl (by decide) lo VR (.slice a i cap0) i (strs zf 0 K) [.int .i64 i,.int .i64 0,.int .i64 0,.int .i64 0,.int .i64 0] _ _ rfl rfl HZ.out HOW.out HN.out rfl (by simp [Value.oneCell']) h63.out.1 h63.out.2 ?_;intro r cap w3 gX fB rW;have jF:=hide (iV.out r cap w3 gX fB rW);have x1:=jF.out.1.1;have x2:=jF.out.1.2;clear gX fB rW)
 obtain ⟨V1,hV1⟩:∃V1,w3.setCell ⟨G,5,none⟩ (.slice (some ⟨r,0,none⟩) (i+1) cap)=V1:=⟨_,rfl⟩
 have z8:=jF.out.2;rw [hV1] at z8;obtain ⟨hic,⟨hk1,hgc,hdr,ho3,hlr⟩,-,hg1,q6,qz⟩:=z8;have HX:Hid ((∀j,j≠4->j≠5->V1.cell? ⟨G,j,none⟩=V.cell? ⟨G,j,none⟩)∧(∀d,d < V.heap.size->(Value.slice a i cap0).ownBlock≠some d->d≠r)∧((Value.slice a i cap0).ownBlock=some r∨V.heap.size<=r)∧G < V1.heap.size∧G≠M∧G≠r∧G≠V.heap.size):=⟨hgc,hdr,ho3,by have:=hg1.hg;have:=hg1.hv;omega,by have:=hg1.hg;have:=hg1.map.2.1;omega,by have:=hg1.hg;omega,by have:=hg1.hg;have:=zW.out;omega⟩
 clear hgc hdr ho3 hlr;obtain ⟨V3,Aa⟩:=lH Ir.out hg1 Iu.out q6 zW.out Iq.out qz;have pt:=Aa.zero;rw [hV1];have fU:=hide hk1;have dh:=hide pt;have a0:=hg1.gm;have a1:=pt.a1;have a2:=pt.a2;clear hV1 jF x1 x2 hk1 hg1 q6 qz pt Aa iV HN HOW HZ h63 zZ d1 c0 rq
 go_upto_region 7 with fail
 have b0:=dh.out.b0;have b0':=dh.out.b0';have rp:=dh.out.run;have b1:(V1.alloc (.cells #[.int .i64 i,.int .i64 0] 182)).cell? ⟨V1.heap.size,0,none⟩=some (.int .i64 i):=by simp
 have b2:(V1.alloc (.cells #[.int .i64 i,.int .i64 0] 182)).cell? ⟨V1.heap.size,1,none⟩=some (.int .i64 0):=by simp
 obtain ⟨V2,hV2⟩:∃V2,V1.alloc (.cells #[.int .i64 i,.int .i64 0] 182)=V2:=⟨_,rfl⟩
 rw [hV2] at b0 b0' b1 b2 rp;have b1':V2.drew.cell? ⟨V1.heap.size,0,none⟩=some (.int .i64 i):=b1;have b2':V2.drew.cell? ⟨V1.heap.size,1,none⟩=some (.int .i64 0):=b2;rw [hV2];clear a0 a1 a2 hV2
 go_region
 all_goals
  clear rp b0 b0' b1 b2 b1' b2';have d1:=dh.out.d1;have d2:=dh.out.d2;have d3:=dh.out.d3
  go_upto_region 9 with fail
  have f0:=dh.out.f0;have f1:=dh.out.f1;have g0:=dh.out.g0;have g1:=dh.out.g1;have g2:=dh.out.g2;have g3:=dh.out.g3;obtain ⟨V4,jD⟩:∃V4,V3.setCell ⟨r,i * 5+3,none⟩ (.int .i64 (1))=V4:=⟨_,rfl⟩
  have hfin:=dh.out.fin;rw [jD] at f0 f1 g0 g1 g2 g3 hfin;rw [jD];have kC:=hide hfin;clear d1 d2 d3 jD hfin;go_wp2_with fail;refine bodyPost_ret (v:=.agg #[.int .i64 i,.int .i64 0]) (by simp [results,Tryz.results103,go_sem,g0,g1]) rfl ⟨M,r,cap,rfl,kC.out.1,?_,λj j0 j1=>(kC.out.2.cell (p:=⟨G,j,none⟩) HX.out.2.2.2.1 HX.out.2.2.2.2).trans (HX.out.1 j j0 j1),NW.out,HX.out.2.2.1⟩;exact zz72
end Go.Proofs.YthfnobboalhihaaGreat.A
