import Derived.Test.YthfnobboalhihaaGreatVb
import Derived.Deep.RegionLaw
import Derived.Laws.IdiomRangeMap
namespace Go.Proofs.YthfnobboalhihaaGreat.K
open Go.RowKit Go.Joins
variable {O:Nat->Nat}
def bF (O:Nat->Nat):Nat->List (Nat×Nat)->List ((Nat×Nat)×(Nat×Nat))
 | _,[]=>[]
 | i,e ::r=>(List.range e.2).map (λj=>((e.1,O e.1+j * 7),(i,j)))++bF O (i+1) r
theorem jr:∀(i:Nat) (K L:List (Nat×Nat)),bF O i (K++L)=bF O i K++bF O (i+K.length) L
 | i,[],L=>by simp [bF]
 | i,e ::K,L=>by
  exact zz151
theorem uk (K:List (Nat×Nat)) (b n:Nat):bF O 0 (K++[(b,n+1)])=bF O 0 (K++[(b,n)])++[((b,O b+n * 7),(K.length,n))]:=by
 rw [jr,jr];simp [bF,List.range_succ]
theorem uq (K:List (Nat×Nat)) (b:Nat):bF O 0 (K++[(b,0)])=bF O 0 K:=by
 rw [jr];simp [bF]
theorem dG:∀(i:Nat) (K:List (Nat×Nat)) (p:(Nat×Nat)×(Nat×Nat)),p∈bF O i K->∃k e,K[k]? =some e∧p.1.1=e.1∧p.2.1=i+k∧p.2.2 < e.2∧p.1.2=O p.1.1+p.2.2 * 7
 | i,[],p,h=>by simp [bF] at h
 | i,e ::K,p,h=>by
  exact zz98
theorem jH {x:Nat×Nat}:∀(kv:List ((Nat×Nat)×(Nat×Nat))),(∀p∈kv,p.1≠x)->fK x kv=none
 | [],_=>rfl
 | p ::r,h=>by
  exact zz198
theorem wH {K:List (Nat×Nat)} {b:Nat} (h:∀e∈K,e.1≠b) (o:Nat):fK (b,o) (bF O 0 K)=none:=jH _ (λp hp e=>by
 obtain ⟨k,e',h1,h2,-⟩:=dG 0 K p hp;rw [e] at h2;exact h e' (List.mem_of_getElem? h1) h2.symm)
theorem nO {K:List (Nat×Nat)} {b n:Nat} (h:∀e∈K,e.1≠b):fK (b,O b+n * 7) (bF O 0 (K++[(b,n)]))=none:=jH _ (λp hp e=>by
 obtain ⟨k,e',h1,h2,-,h4,h5⟩:=dG 0 _ p hp;rw [e] at h2 h5;rcases List.mem_append.1 (List.mem_of_getElem? h1) with h6 | h6
 .exact h e' h6 h2.symm
 .have:e'=(b,n):=by simpa using h6
  rw [this] at h4;have h7:O b+n * 7=O b+p.2.2 * 7:=h5;have h8:p.2.2 < n:=h4;omega)
theorem nP {x:Nat×Nat} {v:Nat×Nat}:∀(kv:List ((Nat×Nat)×(Nat×Nat))),(x,v)∈kv->(∀p∈kv,∀q∈kv,p.1=q.1->p.2=q.2)->fK x kv=some v
 | [],h,_=>by cases h
 | p ::r,h,hu=>by
  exact zz85
theorem pO {K:List (Nat×Nat)} (hn:(K.map Prod.fst).Nodup) {i:Nat} {e:Nat×Nat} (h:K[i]? =some e) {j:Nat} (hj:j < e.2):fK (e.1,O e.1+j * 7) (bF O 0 K)=some (i,j):=by
 have hmem:∀(s:Nat) (K:List (Nat×Nat)) (i:Nat),K[i]? =some e->((e.1,O e.1+j * 7),(s+i,j))∈bF O s K:=by
  exact zz55
 have h1:=hmem 0 K i h;rw [Nat.zero_add] at h1;refine nP _ h1 (λp hp q hq hpq=>?_);obtain ⟨k,a,p1,p2,p3,p4,p5⟩:=dG 0 K p hp;obtain ⟨k',a',q1,q2,q3,q4,q5⟩:=dG 0 K q hq;have hb:a.1=a'.1:=by rw [<- p2,<- q2,hpq]
 have hk:k=k':=by
  exact zz71
 have hj2:O p.1.1+p.2.2 * 7=O p.1.1+q.2.2 * 7:=by rw [<- p5,hpq,<- q5]
 have e1:p.2.2=q.2.2:=by omega
 exact Prod.ext (by rw [p3,q3,hk]) e1
def strs (fs:Nat->Int):Nat->List (Nat×Nat)->List Value
 | _,[]=>[]
 | i,e ::r=>[.int .i64 i,.int .i64 0,.int .i64 0,.int .i64 e.2,.int .i64 (fs i)]++strs fs (i+1) r
theorem eB (fs:Nat->Int):∀(i:Nat) (K L:List (Nat×Nat)),strs fs i (K++L)=strs fs i K++strs fs (i+K.length) L
 | i,[],L=>by simp [strs]
 | i,e ::K,L=>by
  exact zz146
theorem iE (fs:Nat->Int):∀(i:Nat) (K:List (Nat×Nat)),(strs fs i K).length=K.length * 5
 | _,[]=>rfl
 | i,e ::K=>by
  exact zz218
theorem bO (fs:Nat->Int) {K:List (Nat×Nat)} {i:Nat} {e:Nat×Nat} (h:K[i]? =some e) {j:Nat} {v:Value} (hv:[Value.int .i64 i,.int .i64 0,.int .i64 0,.int .i64 e.2,.int .i64 (fs i)][j]? =some v):(strs fs 0 K)[i * 5+j]? =some v:=by
 exact zz37
variable {O:Nat->Nat}
structure GS (O:Nat->Nat) (lo G:Nat) (V:World) (km ks:List (Nat×Nat)) (mv sv:Value) (fs:Nat->Int):Prop where
 gm:V.cell? ⟨G,0,none⟩=some mv
 gs:V.cell? ⟨G,1,none⟩=some sv
 gf:∀j,V.frozen? ⟨G,j,none⟩=false
 mp:(km=[]∧mv=.map none)∨∃M,mv=.map (some M)∧MP V M (bF O 0 km)∧lo<=M
 ow:V.ownsRow lo 188 5 sv ks.length (strs fs 0 ks)
 lv:∀e∈km,aO V e.1∧e.1 < lo∧e.1≠G
 hv:lo<=V.heap.size
 hg:G < lo
section
variable {lo G:Nat} {V:World} {km ks:List (Nat×Nat)} {mv sv:Value} {fs:Nat->Int}
theorem GS.kept (h:GS O lo G V km ks mv sv fs) {V':World} (k:Kept (λ_=>True) V V'):GS O lo G V' km ks mv sv fs:=by
 have hg:=h.hg;have hv:=h.hv;refine ⟨?_,?_,λj=>?_,?_,aj h.ow k (λ_ _=>trivial),λe he=>⟨(h.lv e he).1.all k,(h.lv e he).2⟩,by have:=k.size;omega,hg⟩
 .rw [k.cell (p:=⟨G,0,none⟩) (by show G < _;omega) trivial];exact h.gm
 .rw [k.cell (p:=⟨G,1,none⟩) (by show G < _;omega) trivial];exact h.gs
 .rw [k.frozen (p:=⟨G,j,none⟩) (by show G < _;omega) trivial];exact h.gf j
 .rcases h.mp with h1 | ⟨M,h1,h2,h3⟩
  .exact .inl h1
  .exact .inr ⟨M,h1,h2.kept k trivial,h3⟩
theorem GS.other (h:GS O lo G V km ks mv sv fs) {V':World} (k:Kept (λd=>d≠G) V V') (h0:V'.cell? ⟨G,0,none⟩=some mv) (h1:V'.cell? ⟨G,1,none⟩=some sv) (h2:∀j,V'.frozen? ⟨G,j,none⟩=false):GS O lo G V' km ks mv sv fs:=by
 exact zz70
theorem GS.frame (h:GS O lo G V km ks mv sv fs) {V':World} {S:Nat->Prop} (k:Kept S V V') (hL:∀e∈km,S e.1) (hS:∀d,mv=.map (some d)∨sv.ownBlock=some d->S d) (h0:V'.cell? ⟨G,0,none⟩=some mv) (h1:V'.cell? ⟨G,1,none⟩=some sv) (h2:∀j,V'.frozen? ⟨G,j,none⟩=false):GS O lo G V' km ks mv sv fs:=by
 exact zz74
theorem GS.nM (h:GS O lo G V km ks mv sv fs) {M b:Nat} {n cap:Nat} (hm:mv=.map (some M)) (hs:sv=.slice (some ⟨b,0,none⟩) n cap):M≠b:=λe=>by
 exact zz82
theorem GS.Dh (h:GS O lo G V km ks (.map none) sv fs):GS O lo G ((V.alloc (.map #[] 0)).setCell ⟨G,0,none⟩ (.map (some V.heap.size))) km ks (.map (some V.heap.size)) sv fs:=by
 have VX:km=[]:=by
  rcases h.mp with ⟨h1,-⟩ | ⟨M,h1,-⟩
  .exact h1
  .cases h1
 subst VX;have hg:=h.hg;have hv:=h.hv;have k1:Kept (λ_=>True) V (V.alloc (.map #[] 0)):=Kept.alloc _ _ _;have h1:=h.kept k1;have k2:Kept (λd=>d≠G) (V.alloc (.map #[] 0)) ((V.alloc (.map #[] 0)).setCell ⟨G,0,none⟩ (.map (some V.heap.size))):=Kept.setCell _ _ _ _ (by simp);exact zz63
theorem GS.strips (h:GS O lo G V km ks mv sv fs) {V':World} (k:Kept (λd=>d < lo∨(∃M,mv=.map (some M)∧d=M)) V V') {ks':List (Nat×Nat)} {sv':Value} (ho:V'.ownsRow lo 188 5 sv' ks'.length (strs fs 0 ks')):GS O lo G (V'.setCell ⟨G,1,none⟩ sv') km ks' mv sv' fs:=by
 have hg:=h.hg;have hv:=h.hv;have k2:Kept (λd=>d≠G) V' (V'.setCell ⟨G,1,none⟩ sv'):=Kept.setCell _ _ _ _ (by simp);have c1:V'.cell? ⟨G,1,none⟩=some sv:=by rw [k.cell (p:=⟨G,1,none⟩) (by show G < _;omega) (.inl hg)];exact h.gs
 have z:=k.size;refine ⟨?_,World.cell?_setCell_same _ _ _ c1,λj=>?_,?_,aj ho k2 (λb e=>by have:=az ho b e;omega),λe he=>?_,by have:=k2.size;omega,hg⟩
 .rw [World.cell?_setCell_other _ _ _ _ (by simp),k.cell (p:=⟨G,0,none⟩) (by show G < _;omega) (.inl hg)];exact h.gm
 .rw [World.frozen?_setCell,k.frozen (p:=⟨G,j,none⟩) (by show G < _;omega) (.inl hg)];exact h.gf j
 .rcases h.mp with h1 | ⟨M,h1,h2,h3⟩
  .exact .inl h1
  .exact .inr ⟨M,h1,(h2.kept k (.inr ⟨M,h1,rfl⟩)).kept k2 (by omega),h3⟩
 .obtain ⟨h1,h2,h3⟩:=h.lv e he
  exact ⟨(h1.kept k h1.lt (.inl h2)).kept k2 (by omega) h3,h2,h3⟩
theorem GS.CE (h:GS O lo G V km ks mv sv fs) {V':World} {M:Nat} (hm:mv=.map (some M)) (hM:lo<=M) (hg':V.grownBy V' (some M)) {km':List (Nat×Nat)} (hp:MP V' M (bF O 0 km')) (hl:∀e∈km',aO V e.1∧e.1 < lo∧e.1≠G):GS O lo G V' km' ks mv sv fs:=by
 have hg:=h.hg;have hv:=h.hv;have k:Kept (λd=>d≠M) V V':=Kept.grown hg' (λb e hb=>hb (Option.some.inj e).symm);refine ⟨?_,?_,λj=>?_,.inr ⟨M,hm,hp,hM⟩,aj h.ow k (λb e=>?_),λe he=>?_,by have:=k.size;omega,hg⟩
 .rw [k.cell (p:=⟨G,0,none⟩) (by show G < _;omega) (by show G≠M;omega)];exact h.gm
 .rw [k.cell (p:=⟨G,1,none⟩) (by show G < _;omega) (by show G≠M;omega)];exact h.gs
 .rw [k.frozen (p:=⟨G,j,none⟩) (by show G < _;omega) (by show G≠M;omega)];exact h.gf j
 .rcases h.ow.2 with ⟨h3,-⟩ | ⟨b',cap',cur,h3,-⟩
  .rw [h3] at e;simp [Value.ownBlock] at e
  .have e1:b'=b:=by rw [h3] at e;exact Option.some.inj e
   rw [<- e1];exact λe2=>h.nM hm h3 e2.symm
 .obtain ⟨h1,h2,h3⟩:=hl e he
  exact ⟨h1.kept k h1.lt (by omega),h2,h3⟩
theorem GS.vo {b n cap:Nat} (h:GS O lo G V km ks mv (.slice (some ⟨b,0,none⟩) n cap) fs) {V':World} (k:Kept (λd=>d≠b) V V') {ks':List (Nat×Nat)} {fs':Nat->Int} (ho:V'.ownsRow lo 188 5 (.slice (some ⟨b,0,none⟩) n cap) ks'.length (strs fs' 0 ks')):GS O lo G V' km ks' mv (.slice (some ⟨b,0,none⟩) n cap) fs':=by
 have hg:=h.hg;have hv:=h.hv;have hb:=az h.ow b rfl;refine ⟨?_,?_,λj=>?_,?_,ho,λe he=>?_,by have:=k.size;omega,hg⟩
 .rw [k.cell (p:=⟨G,0,none⟩) (by show G < _;omega) (by show G≠b;omega)];exact h.gm
 .rw [k.cell (p:=⟨G,1,none⟩) (by show G < _;omega) (by show G≠b;omega)];exact h.gs
 .rw [k.frozen (p:=⟨G,j,none⟩) (by show G < _;omega) (by show G≠b;omega)];exact h.gf j
 .rcases h.mp with h1 | ⟨M,h1,h2,h3⟩
  .exact .inl h1
  .exact .inr ⟨M,h1,h2.kept k (h.nM h1 rfl),h3⟩
 .obtain ⟨h1,h2,h3⟩:=h.lv e he
  exact ⟨h1.kept k h1.lt (by omega),h2,h3⟩
end
end Go.Proofs.YthfnobboalhihaaGreat.K
namespace Go.Proofs.YthfnobboalhihaaGreat
open Go.RowKit Go.Joins
theorem zz21 {P:Prop} (h:P:=by
 obtain ⟨e,he⟩:∃e,K[i]? =some e:=⟨_,List.getElem?_eq_getElem (by rw [ku.out];exact hi)⟩
 obtain ⟨r1,r2,-,-,⟨v5,r5⟩,r6⟩:=hlp.out.read ku.out he;obtain ⟨w1,hw1⟩:∃w1,wr.setCell ⟨b,i * 5+4,none⟩ (.int .i64 (off K i))=w1:=⟨_,rfl⟩
 have Co:=hlp.out.next ku.out he
 rw [hw1] at Co;obtain ⟨-,-,q3,q4,-,-⟩:=Co.read ku.out he;have fE:=hide Co;have HW1:=hide hw1;have hic:i < cap:=by omega
 have HO:Hid (off K (i+1)=off K i+e.2):=lF he;have hle:e.2<=10000000:=by
  have h1:=gL he (show i < K.length by rw [ku.out];exact hi);have h2:=yO.out;omega
 have hole:off K i<=10000000:=by
  have h1:=qi (K:=K) (show i<=K.length by rw [ku.out];omega);have h2:=yO.out;omega
 obtain ⟨e1,e2⟩:=e;obtain ⟨x,hx⟩:∃x,off K i=x:=⟨_,rfl⟩
 rw [hx] at HO hole HW1 ⊢;dsimp only at q4 hle HO;clear Co he hw1 hx
 go_upto_region 7 with fail
 rw [HW1.out];go_quiet (fail);go_wp2_with fail;go_roundw
 case rel=>exact ⟨i+1,by rw [HO.out];simp,by go_num,by omega,fE.out.kept (Kept.drewN _ _ _)⟩
 case measure=>simp [intOf];omega):P:=h
theorem zz33 {P:Prop} (h:P:=by
 have hl:=(List.getElem?_eq_some_iff.1 h).1;have hti:(K.take i).length=i:=by rw [List.length_take];omega
 have hK:K.take i++e ::K.drop (i+1)=K:=by
  have h1:=List.take_append_drop i K;have h2:K.drop i=e ::K.drop (i+1):=by
   rw [List.drop_eq_getElem_cons hl];rw [List.getElem?_eq_getElem hl] at h;rw [Option.some.inj h]
  rw [h2] at h1;exact h1
 have hg:=uH (fs:=iO K i) (gs:=iO K (i+1)) (K.take i) (K.drop (i+1)) e (λk hk=>by
  rw [hti] at hk;simp only [iO]
  by_cases h1:k < i
  .rw [if_pos h1,if_pos (by omega)]
  .rw [if_neg h1,if_neg (by omega)])
 rw [hK,hti] at hg;have z1:iO K i i=0:=if_neg (by omega);have z2:iO K (i+1) i=(off K i:Int):=if_pos (by omega);rw [z1,z2] at hg;exact hg):P:=h
theorem zz45 {P:Prop} (h:P:=by
 go_upto_region 2 with fail
 go_loopw [2,3,4,11] (λs2 _ _ s11 wr=>s2=.int .i64 0∧s11=.int .i64 0∧wr=V) (λ_ _ _ _ _=>0)
 case atStart=>exact ⟨rfl,rfl,rfl⟩
 case round=>
  obtain ⟨rfl,rfl,rfl⟩:=hrel
  go_upto_region 10 with fail
  rw [HW2.out]
  go_upto_region 11 with fail
  go_loopw [5] (λ_ wx=>wx=w2.alloc (.mapIter none 0 #[] 0)) (λ_ _=>0)
  case atStart=>rfl
  case round=>
   subst hrel;go_wp2_with fail;go_end0;exact ⟨⟨_,rfl⟩,HE.out⟩):P:=h
theorem zz50 {P:Prop} (h:P:=by
 go_upto_region 2 with fail
 go_loopw [2,3,4,11] (λs2 _ _ s11 wr=>s2=.int .i64 0∧s11=.int .i64 0∧wr=V) (λ_ _ _ _ _=>0)
 case atStart=>exact ⟨rfl,rfl,rfl⟩
 case round=>
  obtain ⟨rfl,rfl,rfl⟩:=hrel
  go_upto_region 10 with fail
  rw [HW2.out]
  go_upto_region 11 with fail
  go_loopw [5] (λ_ wx=>wx=w3) (λ_ _=>0)
  case atStart=>rfl
  case round=>
   subst hrel;go_wp2_with fail;go_end0;exact ⟨⟨_,rfl⟩,HE.out⟩):P:=h
theorem zz61 {P:Prop} (h:P:=by
 obtain ⟨h1,h2⟩:=h;obtain ⟨xs,ys,e1,e2,e3⟩:=wV he;have ho:=h1.ow;rw [e1,hn] at ho;have ho2:=jq ho (.int .i64 (off K i:Int));rw [e3,<- e2] at ho2;have k:Kept (λd=>d≠b) w (w.setCell ⟨b,i * 5+4,none⟩ (.int .i64 (off K i))):=Kept.setCell _ _ _ _ (by simp);exact ⟨h1.vo k (by rw [hn];exact ho2),h2.trans (k.mono (λd _ hd e=>hd (by rw [e];rfl)))⟩):P:=h
theorem zz69 {P:Prop} (h:P:=by
 induction h with
 | refl=>exact Nat.le_refl _
 | @step j _ ih=>
  rcases Nat.lt_or_ge j K.length with hj | hj
  .rw [lF (List.getElem?_eq_getElem hj)]
   omega
  .have e1:K.take (j+1)=K:=List.take_of_length_le (by omega)
   have e2:K.take j=K:=List.take_of_length_le hj;unfold off at ih ⊢;rw [e1];rw [e2] at ih;exact ih):P:=h
theorem zz76 {P:Prop} (h:P:=by
 refine ⟨strs fs 0 A++[.int .i64 A.length,.int .i64 0,.int .i64 0,.int .i64 e.2],strs fs (A.length+1) B,?_,?_,?_⟩
 .rw [eB]
  simp [strs]
 .rw [eB,jM (fs:=fs) (gs:=gs) 0 A (λk _ hk=>h k (by omega)),jM (fs:=fs) (gs:=gs) (A.length+1) B (λk hk _=>h k (by omega))]
  simp [strs]
 .simp [iE]):P:=h
theorem zz84 {P:Prop} (h:P:=by
 by_cases h0:0 < K.length
 .rcases h.mp with ⟨h1,-⟩ | ⟨M,rfl,-⟩
  .rw [h1] at h0;simp at h0
  .exact wh h hn h0 hl hof hc2
 .have e:K=[]:=List.length_eq_zero_iff.1 (by omega)
  subst e;rcases h.mp with ⟨-,rfl⟩ | ⟨M,rfl,-⟩
  .exact uD h hc2
  .exact uJ h hc2):P:=h
theorem zz88 {P:Prop} (h:P:=by
 have k6:=a4.trans (k5.mono (λ_ _ _=>trivial));exact ⟨ks.os.trans k6.os,ks.tape.trans k6.tape,ks.output.trans k6.output,Nat.le_trans k6.size ks.size,λq hq hs=>(ks.block q (Nat.lt_of_lt_of_le hq k6.size) (by show q≠tb;omega)).trans (k6.block q hq hs)⟩):P:=h
theorem zz100 {P:Prop} (h:P:=by
 obtain ⟨h1,h2⟩:=h;have ho:=h1.ow;rw [hn] at ho;exact ⟨h1.gs,aL ho (i * 5) _ (bO _ he (j:=0) rfl),aL ho (i * 5+2) _ (bO _ he (j:=2) rfl),aL ho (i * 5+3) _ (bO _ he (j:=3) rfl),⟨_,aL ho (i * 5+4) _ (bO _ he (j:=4) rfl)⟩,iY ho _⟩):P:=h
theorem zz102 {P:Prop} (h:P:=by
 have h5:i'=i:=(List.getElem?_inj (l:=K.map Prod.fst) (by rw [List.length_map];exact (List.getElem?_eq_some_iff.1 he').1) hn).1 (by rw [List.getElem?_map,List.getElem?_map,he,he'];simp [h3]);subst h5;rw [h3] at h4;exact en (by omega)):P:=h
theorem zz111 {P:Prop} (h:P:=by
 rcases h.g.mp with ⟨-,h1⟩ | ⟨M',h1,-,h3⟩
 .cases h1
 .cases h1;omega):P:=h
theorem zz114 {P:Prop} (h:P:=by
 have h1:=lG (st.1.kept kx) HN.out e1 e4 (by rw [ku.out];exact hn1) (by rw [nI];omega) hoe;rw [hX2,hX1] at h1;refine h1.mono ?_;rintro r w'' ⟨rfl,k2⟩;exact ⟨_,rfl,by rw [nI,<- hP];simp,kx.trans k2⟩):P:=h
theorem zz120 {P:Prop} (h:P:=by
 have hm:(madeCells #[.pointer none] C)[q]? =some (.pointer none):=by
  rw [<- Array.getElem?_toList,toList_madeCells_one];simp [hq]
 exact ⟨.pointer none,by simp [World.cell?,b2,hm]⟩):P:=h
theorem zz122 {P:Prop} (h:P:=by
 exact ⟨k.os.trans h.k.os,k.tape.trans h.k.tape,k.output.trans h.k.output,Nat.le_trans hV k.size,λq hq hs=>(k.block q (by omega) (by show q≠I;omega)).trans (h.k.block q hq hs)⟩):P:=h
theorem zz147 {P:Prop} (h:P:=by
 rw [<- hw2,World.cell?_setCell_other _ _ _ _ (λx=>hq (congrArg Addr.off x).symm)];exact k1.cell (p:=⟨G,q,none⟩) (by show G < _;omega) trivial):P:=h
theorem zz166 {P:Prop} (h:P:=by
 go_wp2_with fail;go_roundg left'.length
 case measure=>rw [hg.out];exact HLEN.out
 case rel=>exact ⟨left',rfl,FIN.out W5 K5.out⟩):P:=h
theorem zz167 {P:Prop} (h:P:=by
 rw [<- hw2,World.cell?_setCell_other _ _ _ _ (λx=>hq (congrArg Addr.off x).symm)];exact k1.cell (p:=⟨G,q,none⟩) ky trivial):P:=h
theorem zz173 {P:Prop} (h:P:=by
 rcases Nat.lt_trichotomy i i' with hi | hi | hi
 .have:=gL h hi;omega
 .subst hi;exact ⟨rfl,by omega⟩
 .have:=gL h' hi;omega):P:=h
theorem zz177 {P:Prop} (h:P:=by
 have h1:=h s (Nat.le_refl _) (by simp);have h2:=jM (s+1) K (λk a b=>h k (by omega) (by simp;omega));simp only [strs,h1,h2]):P:=h
theorem zz192 {P:Prop} (h:P:=by
 obtain ⟨es,clock,seen,-,q2,-⟩:=hi.it;exact Nat.lt_of_lt_of_le (Array.getElem?_eq_some_iff.1 q2).1 k5.size):P:=h
theorem zz196 {P:Prop} (h:P:=by
 exact ⟨v,by rw [World.cell?_setCell_other _ _ _ _ (λx=>en (congrArg Addr.off x).symm)];exact hv⟩):P:=h
theorem zz199 {P:Prop} (h:P:=by
 have:=hs.out.put hk Mm k5 HN.out e1 e4 hy
 simp only [kp] at this;rw [hP,hX2,hX1] at this;exact this):P:=h
theorem zz219 {P:Prop} (h:P:=by
 rw [he] at he'
 cases he'
 exact .inr (World.cell?_setCell_same' _ _ _ (by rw [hv0];rfl))):P:=h
theorem zz223 {P:Prop} (h:P:=by
 rw [World.cell?_setCell_other _ _ _ _ (λx=>en (congrArg Addr.off x).symm)];exact h1):P:=h
theorem zz238 {P:Prop} (h:P:=by
 rcases hnx with ⟨-,h2⟩ | ⟨x,v,l,w',h2,-⟩
 .exact h2
 .simp [bF] at h2):P:=h
theorem zz241 {P:Prop} (h:P:=by
 obtain ⟨cur,hc⟩:=eQ hV.ow d e;exact (Array.getElem?_eq_some_iff.1 hc).1):P:=h
theorem LD {P:Program} (w:World) (ty:TypeId) (I bm since c0:Nat) (seen:Array Nat) (es:Array MapEntry) (clock:Nat) (hI:w.heap[I]? =some (.mapIter (some bm) since seen c0)) (hb:w.heap[bm]? =some (.map es clock)) (hold:∀x∈es.toList,x.born < since) (hsc:since<=c0):
  ((leftOf es seen).size=0∧(Instr.next (.pointer (some ⟨I,0,none⟩)) false ty).run P w=.ok (.tuple #[.bool false]) w)∨
  ∃e∈(leftOf es seen).toList,∃w1:World,(w1=w∨w1=w.drew)∧(Instr.next (.pointer (some ⟨I,0,none⟩)) false ty).run P w=.ok (.tuple #[.bool true,e.key,e.val]) (ChangeMaps.setBlock w1 I (.mapIter (some bm) since (seen.push e.born) clock)):=by
 simp only [Instr.next,getObj,Sem.run_bind,Sem.run,hI,hb,Result.andThen,next_test_false seen es since c0 hold hsc,Bool.false_eq_true,if_false];unfold leftOf;have hmem:∀x∈(Array.filter (λe=>!seen.contains e.born) es).toList,x.born < since:=λx hx=>hold x (by simp at hx ⊢;exact hx.1)
 generalize Array.filter (λe=>!seen.contains e.born) es=L at hmem ⊢;have e1:L.filter (λx=>decide (x.born < since))=L:=Array.filter_eq_self.2 (λx hx=>by simpa using hmem x (by simpa using hx));have e2:L.filter (λx=>decide (x.born>=since))=#[]:=by
  rw [Array.filter_eq_empty_iff];intro x hx
  have:=hmem x (by simpa using hx)
  simp
  omega
 simp only [e1,e2,Array.append_empty]
 by_cases h0:L.size=0
 .left
  have:L=#[]:=Array.eq_empty_of_size_eq_zero h0
  subst this;refine ⟨rfl,?_⟩;simp [choose,Sem.run,Question.forced]
 .right
  have hne:L.isEmpty=false:=by simp [Array.isEmpty,h0]
  simp only [hne,Bool.false_eq_true,if_false,Array.empty_append,Array.size_map];have hch:∃(j:Nat) (w1:World),j < L.size∧(w1=w∨w1=w.drew)∧(choose (Question.mapNext L.size)).run P w=.ok j w1:=by
   by_cases hf:L.size<=1
   .exact ⟨0,w,by omega,.inl rfl,by simp [choose,Sem.run,Question.forced,hf]⟩
   .exact ⟨_,w.drew,Nat.mod_lt _ (by omega),.inr rfl,by
     simp only [choose,Sem.run,Question.forced,decide_eq_true_eq,hf,if_false,Question.cut];rfl⟩
  obtain ⟨j,w1,hj,hal,hrun⟩:=hch;refine ⟨L[j],by simp,w1,hal,?_⟩;have hI1:w1.heap[I]? =some (.mapIter (some bm) since seen c0):=by
   rcases hal with rfl | rfl <;> exact hI
  have hset:∀o',(setObj I o').run P w1=.ok () (ChangeMaps.setBlock w1 I o'):=λo'=>by
   simp only [setObj,Sem.run,hI1];rfl
  simp only [hrun,Array.getElem?_map,Array.getElem?_eq_getElem hj,Option.map_some,Sem.run_bind,hset,Result.andThen];rfl
theorem A9 {P:Program} (w:World) (I bm since:Nat) (seen:Array Nat) (es:Array MapEntry) (clock:Nat) (e:MapEntry) (hI:w.heap[I]? =some (.mapIter (some bm) since (seen.push e.born) clock)) (hb:w.heap[bm]? =some (.map es clock)) (he:e∈es.toList) (hn:(es.toList.map (·.born)).Nodup):
  (Instr.entry (.pointer (some ⟨I,0,none⟩))).run P w=.ok (.tuple #[e.key,e.val]) w:=by
 have hf:es.find? (·.born==e.born)=some e:=by rw [<- Array.find?_toList];exact find_born e es.toList hn he
 simp only [Instr.entry,getObj,Sem.run_bind,Sem.run,hI,hb,Result.andThen,Array.back?_push,bne_self_eq_false,Bool.false_eq_true,if_false,hf];rfl
def DL (w:World) (I:Nat):Nat:=match w.heap[I]? with
 | some (.mapIter _ _ seen _)=>seen.size
 | _=>0
structure IW (w:World) (I M:Nat) (kv:List ((Nat×Nat)×(Nat×Nat))) (left:List (Nat×Nat)):Prop where
 it:∃es clock seen,w.heap[M]? =some (.map es clock)∧w.heap[I]? =some (.mapIter (some M) clock seen clock)∧es.toList.map (λe=>(e.key,e.val))=kv.map (λp=>(kp p.1,vp p.2))∧(es.toList.map (·.born)).Nodup∧(∀x∈es.toList,x.born < clock)∧(leftOf es seen).toList.map (·.key)=left.map kp
 sub:∀x∈left,∃p∈kv,p.1=x
 num:DL w I+left.length=kv.length
theorem IW.kept {w w':World} {I M:Nat} {kv:List ((Nat×Nat)×(Nat×Nat))} {left:List (Nat×Nat)} {S:Nat->Prop} (h:IW w I M kv left) (k:Kept S w w') (hI:S I) (hM:S M):IW w' I M kv left:=by
 obtain ⟨⟨es,clock,seen,h1,h2,h3⟩,h4,h5⟩:=h;have e2:=k.block I (Array.getElem?_eq_some_iff.1 h2).1 hI;exact ⟨⟨es,clock,seen,(k.block M (Array.getElem?_eq_some_iff.1 h1).1 hM).trans h1,e2.trans h2,h3⟩,h4,by unfold DL at h5 ⊢;rw [e2];exact h5⟩
theorem DN (es:Array MapEntry) (seen:Array Nat) (b:Nat):(leftOf es (seen.push b)).toList=(leftOf es seen).toList.filter (λe=>e.born !=b):=by
 simp only [leftOf,Array.toList_filter,List.filter_filter];congr 1
 funext e
 simp only [Array.contains_push,Bool.not_or,bne];rw [Bool.and_comm]
theorem SI {x y:Nat×Nat} (h:kp x=kp y):x=y:=by
 unfold kp at h;obtain ⟨a,b⟩:=x;obtain ⟨c,d⟩:=y;simp at h;rw [h.1,h.2]
theorem IW.next {P:Program} {w:World} {I M:Nat} {kv:List ((Nat×Nat)×(Nat×Nat))} {left:List (Nat×Nat)} (h:IW w I M kv left) (yQ:I≠M) (ty:TypeId):
  (left=[]∧(Instr.next (.pointer (some ⟨I,0,none⟩)) false ty).run P w=.ok (.tuple #[.bool false]) w)∨
  ∃x v left' w',x∈left∧(∀y∈left,y=x∨y∈left')∧left'.length+1=left.length∧(Instr.next (.pointer (some ⟨I,0,none⟩)) false ty).run P w=.ok (.tuple #[.bool true,kp x,v]) w'∧(∀w2,w2=w'∨w2=w'.drew->(Instr.entry (.pointer (some ⟨I,0,none⟩))).run P w2=.ok (.tuple #[kp x,v]) w2)∧IW w' I M kv left'∧Kept (λd=>d≠I) w w':=by
 obtain ⟨⟨es,clock,seen,h1,h2,h3,h4,h5,h6⟩,h7,h8⟩:=h;rcases LD (P:=P) w ty I M clock clock seen es clock h2 h1 h5 (Nat.le_refl _) with ⟨g1,g2⟩ | ⟨e,he,w1,hw1,hrun⟩
 .refine .inl ⟨?_,g2⟩
  have:left.map kp=[]:=by rw [<- h6];simp [Array.eq_empty_of_size_eq_zero g1]
  simpa using this
 .have hem:e∈es.toList:=by
   have:=he
   simp only [leftOf,Array.toList_filter,List.mem_filter] at this;exact this.1
  obtain ⟨x,hx,hxe⟩:∃x∈left,kp x=e.key:=by
   have:e.key∈left.map kp:=by rw [<- h6];exact List.mem_map.2 ⟨e,he,rfl⟩
   exact List.mem_map.1 this
  obtain ⟨p1,p2,hp⟩:=List.append_of_mem he;have hnd:((leftOf es seen).toList.map (·.born)).Nodup:=by
   simp only [leftOf,Array.toList_filter];exact h4.sublist (List.filter_sublist.map _)
  have hlf:(leftOf es (seen.push e.born)).toList=p1++p2:=by
   rw [DN,hp];rw [hp,List.map_append,List.map_cons] at hnd;have Fx:=List.nodup_append.1 hnd;have aaq:=List.nodup_cons.1 Fx.2.1;rw [List.filter_append,List.filter_cons,if_neg (by simp)];congr 1
   .exact List.filter_eq_self.2 (λy hy=>by
     have:=Fx.2.2 y.born (List.mem_map.2 ⟨y,hy,rfl⟩) e.born List.mem_cons_self
     simpa using this)
   .exact List.filter_eq_self.2 (λy hy=>by
     have:y.born≠e.born:=λe'=>aaq.1 (by rw [<- e'];exact List.mem_map.2 ⟨y,hy,rfl⟩)
     simpa using this)
  have hlm:left.map kp=p1.map (·.key)++e.key ::p2.map (·.key):=by rw [<- h6,hp];simp
  obtain ⟨l1,l2',hl,hl1,hl2⟩:=List.map_eq_append_iff.1 hlm;obtain ⟨x',l2,rfl,hx',hl2⟩:=List.map_eq_cons_iff.1 hl2;have hxx:x'=x:=SI (hx'.trans hxe.symm);subst hxx;have hk1:Kept (λd=>d≠I) w (ChangeMaps.setBlock w1 I (.mapIter (some M) clock (seen.push e.born) clock)):=by
   have hh:w1.heap=w.heap:=by rcases hw1 with rfl | rfl <;> rfl
   refine ⟨by rcases hw1 with rfl | rfl <;> rfl,by rcases hw1 with rfl | rfl <;> rfl,by rcases hw1 with rfl | rfl <;> rfl,by simp [ChangeMaps.setBlock,hh],λk _ hk=>?_⟩;show (w1.heap.setIfInBounds I _)[k]? =_;rw [Array.getElem?_setIfInBounds_ne (λe=>hk e.symm),hh]
  have hI2:(ChangeMaps.setBlock w1 I (.mapIter (some M) clock (seen.push e.born) clock)).heap[I]? =some (.mapIter (some M) clock (seen.push e.born) clock):=by
   have hh:w1.heap=w.heap:=by rcases hw1 with rfl | rfl <;> rfl
   have hlt:I < w1.heap.size:=by rw [hh];exact (Array.getElem?_eq_some_iff.1 h2).1
   show (w1.heap.setIfInBounds I _)[I]? =_;rw [Array.getElem?_setIfInBounds_self_of_lt hlt]
  have hM2:=(hk1.block M (Array.getElem?_eq_some_iff.1 h1).1 (λe=>yQ e.symm)).trans h1;refine .inr ⟨x',e.val,l1++l2,_,hx,λy hy=>?_,by rw [hl];simp;omega,by rw [hx'];exact hrun,λw2 hw2=>?_,⟨⟨es,clock,seen.push e.born,hM2,hI2,h3,h4,h5,?_⟩,λy hy=>h7 y ?_,?_⟩,hk1⟩
  .rw [hl] at hy
   rcases List.mem_append.1 hy with hy | hy
   .exact .inr (List.mem_append.2 (.inl hy))
   .rcases List.mem_cons.1 hy with hy | hy
    .exact .inl hy
    .exact .inr (List.mem_append.2 (.inr hy))
  .rw [hx']
   rcases hw2 with rfl | rfl
   .exact A9 _ I M clock seen es clock e hI2 hM2 hem h4
   .exact A9 _ I M clock seen es clock e hI2 hM2 hem h4
  .rw [hlf,List.map_append,List.map_append,hl1,hl2]
  .rw [hl]
   rcases List.mem_append.1 hy with hy | hy
   .exact List.mem_append.2 (.inl hy)
   .exact List.mem_append.2 (.inr (List.mem_cons_of_mem _ hy))
  .unfold DL at h8 ⊢
   rw [h2] at h8;rw [hI2];rw [hl] at h8;simp at h8 ⊢;omega
theorem IW.start {w:World} {M:Nat} {kv:List ((Nat×Nat)×(Nat×Nat))} (h:MP w M kv) {P:Program} {t k e:TypeId} (ht:P.underlying t=some (.map k e)):∃c,(Instr.range t (.map (some M))).run P w=.ok (.pointer (some ⟨w.heap.size,0,none⟩)) (w.alloc (.mapIter (some M) c #[] c))∧IW (w.alloc (.mapIter (some M) c #[] c)) w.heap.size M kv (kv.map Prod.fst):=by
 have hlt:=h.lt;obtain ⟨es,c,h1,h2,h3,h4⟩:=h;have hn:(w.alloc (.mapIter (some M) c #[] c)).heap[w.heap.size]? =some (.mapIter (some M) c #[] c):=heap_alloc_new _ _;refine ⟨c,run_range_map w t k e M es c ht h1,⟨es,c,#[],((Kept.alloc (λ_=>True) w (.mapIter (some M) c #[] c)).block M hlt trivial).trans h1,hn,h2,h3,h4,?_⟩,λx hx=>?_,?_⟩
 .have e1:(leftOf es #[]).toList=es.toList:=by simp [leftOf]
  rw [e1]
  have:=congrArg (List.map Prod.fst) h2
  simpa [List.map_map,Function.comp_def] using this
 .obtain ⟨p,hp,rfl⟩:=List.mem_map.1 hx
  exact ⟨p,hp,rfl⟩
 .unfold DL
  rw [hn]
  simp
theorem xE {x v:Nat×Nat}:∀{kv:List ((Nat×Nat)×(Nat×Nat))},fK x kv=some v->(x,v)∈kv
 | [],h=>by simp [fK] at h
 | p ::r,h=>by
  unfold fK at h
  split at h
  .rename_i e
   cases h
   rw [<- e];exact List.mem_cons_self
  .exact List.mem_cons_of_mem _ (xE h)
end Go.Proofs.YthfnobboalhihaaGreat
