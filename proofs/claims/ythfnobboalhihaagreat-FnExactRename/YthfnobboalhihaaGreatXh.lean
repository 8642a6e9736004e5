import Derived.Test.YthfnobboalhihaaGreatXe
import Derived.Test.YthfnobboalhihaaGreatYtK
import Derived.Test.YthfnobboalhihaaGreatYtA
import Derived.Laws.Runes
set_option maxHeartbeats 8000000
set_option maxRecDepth 100000
namespace Go.Proofs.YthfnobboalhihaaGreat
open Go.RowKit Go.Joins
theorem zz59 {P:Prop} (h:P:=by
 rw [Nat.zero_mul,Nat.add_zero] at h1;refine h1.mono ?_;rintro r V' ⟨rfl,k2⟩;exact ⟨_,rfl,by rw [nI,hP];simp,kV.trans k2⟩):P:=h
theorem zz169 {P:Prop} (h:P:=by
 have h1:=K.lG (h.gk.kept kV) hn hk (j:=0) hn0 hK (by rw [nI];dsimp only at hle;omega) (by dsimp only at hle ⊢;omega);exact zz59):P:=h
theorem zz170 {P:Prop} (h:P:=by
 have h1:=A.lG (h.ga.kept kV) hn hk (j:=0) hn0 hK (by rw [nI];dsimp only at hle;omega) (by dsimp only at hle ⊢;omega);exact zz59):P:=h
theorem zz240 {P:Prop} (h:P:=by
 rintro e w' ⟨i,L2,lv',rfl,q⟩;exact ⟨_,rfl,i,L2,lv',rfl,q.pre hG kV⟩):P:=h
theorem LQ.pre {w w1 w':World} {B1 G:Nat} {LS:List (Nat×Nat)} {lv:Value} {Mn:Nat} {x:Nat×Nat} {i:Nat} {L2:List (Nat×Nat)} {lv':Value} (hG:G < w.heap.size) (k:Kept (λ_=>True) w w1) (h:LQ w1 w' B1 G LS lv Mn x i L2 lv'):LQ w w' B1 G LS lv Mn x i L2 lv':=
 ⟨h.ln,h.at_,h.new,(k.mono (λ_ _ _=>trivial)).trans h.kept,λj hj=>(h.cell j hj).trans (k.cell (p:=⟨G,j,none⟩) hG trivial),λj=>(h.Mx j).trans (k.frozen (p:=⟨G,j,none⟩) hG trivial),h.blk.imp id (λ⟨c,h1,h2⟩=>⟨c,h1,Nat.le_trans k.size h2⟩)⟩
theorem LQ.same {w w':World} {B1 G:Nat} {LS:List (Nat×Nat)} {lv:Value} {Mn:Nat} {x:Nat×Nat} {i:Nat} (h:LN w B1 G LS lv Mn) (hi:LS[i]? =some x) (k:Kept (λ_=>True) w w'):LQ w w' B1 G LS lv Mn x i [] lv:=by
 have hG:G < w.heap.size:=block_lt_of_cell h.c9;exact ⟨by rw [List.append_nil];exact h.kept k trivial trivial (λ_ _=>trivial),by rw [List.append_nil];exact hi,.inl rfl,k.mono (λ_ _ _=>trivial),λj _=>k.cell (p:=⟨G,j,none⟩) hG trivial,λj=>k.frozen (p:=⟨G,j,none⟩) hG trivial,.inl rfl⟩
def FB (KK AA:List (Nat×Nat)) (mk sk ma sa:Value) (tk ta:Nat) (c:Nat):Prop:=
 (mk=.map (some c)∨sk.ownBlock=some c)∨(ma=.map (some c)∨sa.ownBlock=some c)∨c=tk∨c=ta∨(∃e∈KK,e.1=c)∨∃e∈AA,e.1=c
structure PZ (O:Nat->Nat) (w:World) (B1 lo G:Nat) (KK AA:List (Nat×Nat)) (mk sk ma sa:Value) (tk ta:Nat) (LS:List (Nat×Nat)) (lv:Value) (Mn:Nat):Prop where
 gk:K.GS O lo G w KK KK mk sk (K.iO KK KK.length)
 ga:A.GS O lo G w AA AA ma sa (A.iO AA AA.length)
 tK:K.TI O w tk KK []
 tA:A.TI O w ta AA []
 c2:w.cell? ⟨G,2,none⟩=some (.slice (some ⟨tk,0,none⟩) (K.off KK KK.length) (K.off KK KK.length))
 c6:w.cell? ⟨G,6,none⟩=some (.slice (some ⟨ta,0,none⟩) (A.off AA AA.length) (A.off AA AA.length))
 ln:LN w B1 G LS lv Mn
 dj:∀c,FB KK AA mk sk ma sa tk ta c->c≠G∧lv.ownBlock≠some c∧c≠Mn
 hb:∀c,FB KK AA mk sk ma sa tk ta c->c < w.heap.size
theorem PZ.step {O:Nat->Nat} {w w':World} {B1 lo G:Nat} {KK AA:List (Nat×Nat)} {mk sk ma sa:Value} {tk ta:Nat} {LS:List (Nat×Nat)} {lv lv':Value} {Mn:Nat} {L2:List (Nat×Nat)} {S:Nat->Prop} (h:PZ O w B1 lo G KK AA mk sk ma sa tk ta LS lv Mn) (hl:LN w' B1 G (LS++L2) lv' Mn) (k:Kept S w w') (hS:∀c,FB KK AA mk sk ma sa tk ta c->S c) (hc:∀j,j≠8->j≠9->w'.cell? ⟨G,j,none⟩=w.cell? ⟨G,j,none⟩) (hf:∀j,w'.frozen? ⟨G,j,none⟩=w.frozen? ⟨G,j,none⟩) (hb:lv'.ownBlock=lv.ownBlock∨∃c,lv'.ownBlock=some c∧w.heap.size<=c):
  PZ O w' B1 lo G KK AA mk sk ma sa tk ta (LS++L2) lv' Mn:=by
 refine ⟨h.gk.frame k (λe he=>hS _ (.inr (.inr (.inr (.inr (.inl ⟨e,he,rfl⟩)))))) (λd hd=>hS d (.inl hd)) ((hc 0 (by decide) (by decide)).trans h.gk.gm) ((hc 1 (by decide) (by decide)).trans h.gk.gs) (λj=>(hf j).trans (h.gk.gf j)),h.ga.frame k (λe he=>hS _ (.inr (.inr (.inr (.inr (.inr ⟨e,he,rfl⟩)))))) (λd hd=>hS d (.inr (.inl hd))) ((hc 4 (by decide) (by decide)).trans h.ga.gm) ((hc 5 (by decide) (by decide)).trans h.ga.gs) (λj=>(hf j).trans (h.ga.gf j)),h.tK.kept k (hS _ (.inr (.inr (.inl rfl)))),h.tA.kept k (hS _ (.inr (.inr (.inr (.inl rfl))))),(hc 2 (by decide) (by decide)).trans h.c2,(hc 6 (by decide) (by decide)).trans h.c6,hl,λc hcc=>?_,λc hcc=>Nat.lt_of_lt_of_le (h.hb c hcc) k.size⟩;obtain ⟨d1,d2,d3⟩:=h.dj c hcc;refine ⟨d1,?_,d3⟩;rcases hb with e | ⟨q,e,hq⟩
 .rw [e];exact d2
 .rw [e]
  intro e2;have e3:q=c:=Option.some.inj e2
  have:=h.hb c hcc
  omega
theorem PZ.list {O:Nat->Nat} {w w':World} {B1 lo G:Nat} {KK AA:List (Nat×Nat)} {mk sk ma sa:Value} {tk ta:Nat} {LS:List (Nat×Nat)} {lv lv':Value} {Mn:Nat} {L2:List (Nat×Nat)} {x:Nat×Nat} {i:Nat} (h:PZ O w B1 lo G KK AA mk sk ma sa tk ta LS lv Mn) (q:LQ w w' B1 G LS lv Mn x i L2 lv'):PZ O w' B1 lo G KK AA mk sk ma sa tk ta (LS++L2) lv' Mn:=
 h.step q.ln q.kept (λc hc=>h.dj c hc) (λj _ h9=>q.cell j h9) q.Mx q.blk
theorem Kq {w:World} {B1 G:Nat} {LS:List (Nat×Nat)} {lv:Value} {Mn:Nat} (h:LN w B1 G LS lv Mn) (h0:LS[0]? =some (0,0)) (a:Option Addr) (cap:Nat):
  Calls Tryz.prog 51 #[.pointer (some ⟨G,0,none⟩),.slice a 0 cap] w λe w'=>e=.returned (.int .i64 0)∧LQ w w' B1 G LS lv Mn (0,0) 0 [] lv:=by
 have HE:=hide (LQ.same h h0 (Kept.refl _ w));clear h h0;go_enter Tryz.func51,Tryz.ntmps51;go_wp2_with fail;go_ret;exact ⟨rfl,HE.out⟩
theorem Kr {w:World} {B1 G:Nat} {LS:List (Nat×Nat)} {lv:Value} {Mn:Nat} (h:LN w B1 G LS lv Mn) (h0:LS[0]? =some (0,0)) (a:Option Addr) (cap:Nat):
  Calls Tryz.prog 93 #[.pointer (some ⟨G,0,none⟩),.slice a 0 cap] w λe w'=>e=.returned (.int .i64 0)∧LQ w w' B1 G LS lv Mn (0,0) 0 [] lv:=by
 have HE:=hide (LQ.same h h0 (Kept.refl _ w));clear h h0;go_enter Tryz.func93,Tryz.ntmps93;go_wp2_with fail;go_ret;exact ⟨rfl,HE.out⟩
theorem Kt {O:Nat->Nat} {w:World} {B1 lo G:Nat} {KK AA:List (Nat×Nat)} {mk sk ma sa:Value} {tk ta:Nat} {LS:List (Nat×Nat)} {lv:Value} {Mn:Nat} (h:PZ O w B1 lo G KK AA mk sk ma sa tk ta LS lv Mn) (hn:(KK.map Prod.fst).Nodup) {k b n cap:Nat} (hk:KK[k]? =some (b,n)) (hn0:0 < n) (hl:LS.length<=10000000) (hK:KK.length<=10000000) (hof:K.off KK KK.length<=10000000):
  Calls Tryz.prog 51 #[.pointer (some ⟨G,0,none⟩),.slice (some ⟨b,O b,none⟩) n cap] w λe w'=>∃(i:Nat) (L2:List (Nat×Nat)) (lv':Value),e=.returned (.int .i64 (i:Int))∧LQ w w' B1 G LS lv Mn (K.off KK k,n) i L2 lv':=by
 have hkl:k < KK.length:=(List.getElem?_eq_some_iff.1 hk).1;have hle:=K.gL hk hkl;have hG:G < w.heap.size:=block_lt_of_cell h.c2;have nI:K.iO KK KK.length k=(K.off KK k:Int):=if_pos hkl;obtain ⟨P,hP⟩:∃P,K.off KK k=P:=⟨_,rfl⟩
 have HN:Hid (∀V,Kept (λ_=>True) w V->Calls Tryz.prog 76 #[.pointer (some ⟨G,0,none⟩),.pointer (some ⟨b,O b,none⟩)] V λr V'=>∃v,r=.returned v∧(v=.int .i64 (P:Int)∧Kept (λ_=>True) w V')):=λV kV=>by
  exact zz169
 have HL:Hid (∀V,Kept (λ_=>True) w V->Calls Tryz.prog 75 #[.pointer (some ⟨G,0,none⟩),.agg #[.int .i64 (P:Int),.int .i64 (n:Int)]] V λe w'=>∃v,e=.returned v∧∃(i:Nat) (L2:List (Nat×Nat)) (lv':Value),v=.int .i64 (i:Int)∧LQ w w' B1 G LS lv Mn (P,n) i L2 lv'):=λV kV=>by
  refine (Jp (h.ln.kept kV trivial trivial (λ_ _=>trivial)) (P,n) hl).mono ?_;exact zz240
 have hn1:¬(n:Int)=0:=by omega
 have hn2:(0:Int) < (n:Int):=by omega
 rw [hP];clear h hn hk hl hK hof hkl hle hG nI hP;go_enter Tryz.func51,Tryz.ntmps51
 go_upto_region 3 with fail
 go_region_law (first
  | (refine aX (by rfl) 76 #[.pointer (some ⟨G,0,none⟩),.pointer (some ⟨b,O b,none⟩)] (by simp [go_sem]) _ (HN.out _ (Kept.drew _ _)) ?_;rintro v5 W5 ⟨rfl,h5⟩;have K5:=hide h5;clear h5)
  | (refine aX (by rfl) 75 #[.pointer (some ⟨G,0,none⟩),.agg #[.int .i64 (P:Int),.int .i64 (n:Int)]] (by simp [go_sem]) _ (HL.out _ K5.out) ?_;rintro v6 W6 ⟨i6,L6,ui,rfl,h6⟩;have K6:=hide h6;clear h6)
  | fail)
 all_goals
  go_wp2_with fail;go_ret;exact ⟨i6,rfl,L6,ui,K6.out⟩
theorem Ku {O:Nat->Nat} {w:World} {B1 lo G:Nat} {KK AA:List (Nat×Nat)} {mk sk ma sa:Value} {tk ta:Nat} {LS:List (Nat×Nat)} {lv:Value} {Mn:Nat} (h:PZ O w B1 lo G KK AA mk sk ma sa tk ta LS lv Mn) (hn:(AA.map Prod.fst).Nodup) {k b n cap:Nat} (hk:AA[k]? =some (b,n)) (hn0:0 < n) (hl:LS.length<=10000000) (hK:AA.length<=10000000) (hof:A.off AA AA.length<=10000000) (hok:K.off KK KK.length<=10000000):
  Calls Tryz.prog 93 #[.pointer (some ⟨G,0,none⟩),.slice (some ⟨b,O b,none⟩) n cap] w λe w'=>∃(i:Nat) (L2:List (Nat×Nat)) (lv':Value),e=.returned (.int .i64 (i:Int))∧LQ w w' B1 G LS lv Mn (K.off KK KK.length+A.off AA k,n) i L2 lv':=by
 have hkl:k < AA.length:=(List.getElem?_eq_some_iff.1 hk).1;have hle:=A.gL hk hkl;have hG:G < w.heap.size:=block_lt_of_cell h.c2;have nI:A.iO AA AA.length k=(A.off AA k:Int):=if_pos hkl;obtain ⟨P,hP⟩:∃P,A.off AA k=P:=⟨_,rfl⟩
 obtain ⟨C,hC⟩:∃C,K.off KK KK.length=C:=⟨_,rfl⟩
 have Cr:(C:Int)+(P:Int)=((C+P:Nat):Int):=by simp
 obtain ⟨Q,hQ⟩:∃Q,C+P=Q:=⟨_,rfl⟩
 rw [hQ] at Cr;have hPb:P<=10000000:=by rw [<- hP];dsimp only at hle;omega
 have QB:C<=10000000:=by omega
 have hQw:IntKind.i64.wrap (Q:Int)=(Q:Int):=wrap_small _ (by omega) (by omega);have HN:Hid (∀V,Kept (λ_=>True) w V->Calls Tryz.prog 106 #[.pointer (some ⟨G,4,none⟩),.pointer (some ⟨b,O b,none⟩)] V λr V'=>∃v,r=.returned v∧(v=.int .i64 (P:Int)∧Kept (λ_=>True) w V')):=λV kV=>by
  exact zz170
 have HL:Hid (∀V,Kept (λ_=>True) w V->Calls Tryz.prog 75 #[.pointer (some ⟨G,0,none⟩),.agg #[.int .i64 (Q:Int),.int .i64 (n:Int)]] V λe w'=>∃v,e=.returned v∧∃(i:Nat) (L2:List (Nat×Nat)) (lv':Value),v=.int .i64 (i:Int)∧LQ w w' B1 G LS lv Mn (Q,n) i L2 lv'):=λV kV=>by
  refine (Jp (h.ln.kept kV trivial trivial (λ_ _=>trivial)) (Q,n) hl).mono ?_;exact zz240
 have H2:Hid (∀V,Kept (λ_=>True) w V->V.cell? ⟨G,2,none⟩=some (.slice (some ⟨tk,0,none⟩) C C)):=λV kV=>by rw [<- hC];exact (kV.cell (p:=⟨G,2,none⟩) hG trivial).trans h.c2
 have hn1:¬(n:Int)=0:=by omega
 have hn2:(0:Int) < (n:Int):=by omega
 rw [hP,hC,hQ];have c1:=H2.out w (Kept.refl _ _);have c1':=H2.out w.drew (Kept.drew _ _);clear h hn hk hl hK hof hkl hle hG nI hP hC hQ hok;go_enter Tryz.func93,Tryz.ntmps93
 go_upto_region 3 with fail
 go_region_law (first
  | (refine aX (by rfl) 106 #[.pointer (some ⟨G,4,none⟩),.pointer (some ⟨b,O b,none⟩)] (by simp [go_sem]) _ (HN.out _ (Kept.drew _ _)) ?_;rintro v5 W5 ⟨rfl,h5⟩;have K5:=hide h5;have c5:=H2.out W5 h5;clear h5)
  | (refine aX (by rfl) 75 #[.pointer (some ⟨G,0,none⟩),.agg #[.int .i64 (Q:Int),.int .i64 (n:Int)]] (by simp [go_sem]) _ (HL.out _ K5.out) ?_;rintro v6 W6 ⟨i6,L6,ui,rfl,h6⟩;have K6:=hide h6;clear h6)
  | fail)
 all_goals
  go_wp2_with fail;go_ret;exact ⟨i6,rfl,L6,ui,K6.out⟩
def KX (O:Nat->Nat) (KK:List (Nat×Nat)) (a:Option Addr) (n:Nat) (x:Nat×Nat):Prop:=(n=0∧x=(0,0))∨∃k b:Nat,a=some ⟨b,O b,none⟩∧KK[k]? =some (b,n)∧0 < n∧x=(K.off KK k,n)
def AX (O:Nat->Nat) (KK AA:List (Nat×Nat)) (a:Option Addr) (n:Nat) (x:Nat×Nat):Prop:=(n=0∧x=(0,0))∨∃k b:Nat,a=some ⟨b,O b,none⟩∧AA[k]? =some (b,n)∧0 < n∧x=(K.off KK KK.length+A.off AA k,n)
structure PN (O:Nat->Nat) (w:World) (B1 lo G:Nat) (KK AA:List (Nat×Nat)) (mk sk ma sa:Value) (tk ta:Nat) (LS:List (Nat×Nat)) (lv:Value) (Mn:Nat) (nv:Value) (n:Nat) (cs:List Value):Prop where
 z:PZ O w B1 lo G KK AA mk sk ma sa tk ta LS lv Mn
 l0:LS[0]? =some (0,0)
 c8:w.cell? ⟨G,8,none⟩=some nv
 f8:w.frozen? ⟨G,8,none⟩=false
 ow:w.ownsRow B1 155 3 nv n cs
 dn:∀c,nv.ownBlock=some c->c≠G∧c≠Mn∧lv.ownBlock≠some c∧¬FB KK AA mk sk ma sa tk ta c
section
variable {O:Nat->Nat} {w w':World} {B1 lo G:Nat} {KK AA:List (Nat×Nat)} {mk sk ma sa:Value} {tk ta:Nat} {LS:List (Nat×Nat)} {lv:Value} {Mn:Nat} {nv:Value} {n:Nat} {cs:List Value}
theorem PN.list {x:Nat×Nat} {i:Nat} {L2:List (Nat×Nat)} {lv':Value} (h:PN O w B1 lo G KK AA mk sk ma sa tk ta LS lv Mn nv n cs) (q:LQ w w' B1 G LS lv Mn x i L2 lv'):PN O w' B1 lo G KK AA mk sk ma sa tk ta (LS++L2) lv' Mn nv n cs:=by
 refine ⟨h.z.list q,?_,(q.cell 8 (by decide)).trans h.c8,(q.Mx 8).trans h.f8,aj h.ow q.kept (λc e=>⟨(h.dn c e).1,(h.dn c e).2.2.1,(h.dn c e).2.1⟩),λc e=>?_⟩
 .rw [List.getElem?_append_left (List.getElem?_eq_some_iff.1 h.l0).1]
  exact h.l0
 .obtain ⟨d1,d2,d3,d4⟩:=h.dn c e
  refine ⟨d1,d2,?_,d4⟩;rcases q.blk with e2 | ⟨r,e2,hr⟩
  .rw [e2];exact d3
  .rw [e2]
   intro e3;have e4:r=c:=Option.some.inj e3
   have:=(World.ownsRow.lt h.ow c e).2
   omega
theorem PN.keep (h:PN O w B1 lo G KK AA mk sk ma sa tk ta LS lv Mn nv n cs) (k:Kept (λ_=>True) w w'):PN O w' B1 lo G KK AA mk sk ma sa tk ta LS lv Mn nv n cs:=by
 have hG:G < w.heap.size:=block_lt_of_cell h.c8;have hz:=h.z.step (L2:=[]) (lv':=lv) (by rw [List.append_nil];exact h.z.ln.kept k trivial trivial (λ_ _=>trivial)) k (λ_ _=>trivial) (λj _ _=>k.cell (p:=⟨G,j,none⟩) hG trivial) (λj=>k.frozen (p:=⟨G,j,none⟩) hG trivial) (.inl rfl);rw [List.append_nil] at hz;exact ⟨hz,h.l0,(k.cell (p:=⟨G,8,none⟩) hG trivial).trans h.c8,(k.frozen (p:=⟨G,8,none⟩) hG trivial).trans h.f8,aj h.ow k (λ_ _=>trivial),h.dn⟩
theorem PN.node {w7:World} {g7 cp:Nat} {a:Option Addr} {c0:Nat} {ys:List Value} (h:PN O w B1 lo G KK AA mk sk ma sa tk ta LS lv Mn (.slice a n c0) n cs)
  (hO:w7.ownsRow B1 155 3 (.slice (some ⟨g7,0,none⟩) (n+1) cp) (n+1) (cs++ys)) (fB:w.grownBy w7 (Value.slice a n c0).ownBlock) (hat:(Value.slice a n c0).ownBlock=some g7∨g7=w.heap.size):
  (w7.cell? ⟨G,8,none⟩=some (.slice a n c0)∧w7.frozen? ⟨G,8,none⟩=false)∧PN O (w7.setCell ⟨G,8,none⟩ (.slice (some ⟨g7,0,none⟩) (n+1) cp)) B1 lo G KK AA mk sk ma sa tk ta LS lv Mn (.slice (some ⟨g7,0,none⟩) (n+1) cp) (n+1) (cs++ys)∧
   Kept (λc=>c≠G∧(Value.slice a n c0).ownBlock≠some c) w (w7.setCell ⟨G,8,none⟩ (.slice (some ⟨g7,0,none⟩) (n+1) cp))∧((Value.slice a n c0).ownBlock=some g7∨w.heap.size<=g7):=by
 have hG:G < w.heap.size:=block_lt_of_cell h.c8;have ka:Kept (λc=>(Value.slice a n c0).ownBlock≠some c) w w7:=Kept.grown fB (λc hc hx=>hx hc);have nG:(Value.slice a n c0).ownBlock≠some G:=λe=>(h.dn G e).1 rfl
 have hat':(Value.slice a n c0).ownBlock=some g7∨w.heap.size<=g7:=hat.imp id (λe=>by omega);have ks:Kept (λc=>c≠G) w7 (w7.setCell ⟨G,8,none⟩ (.slice (some ⟨g7,0,none⟩) (n+1) cp)):=Kept.setCell _ _ _ _ (λhx=>hx rfl);have r1:w7.cell? ⟨G,8,none⟩=some (.slice a n c0):=(ka.cell (p:=⟨G,8,none⟩) hG nG).trans h.c8;have r2:w7.frozen? ⟨G,8,none⟩=false:=(ka.frozen (p:=⟨G,8,none⟩) hG nG).trans h.f8;have kk:Kept (λc=>c≠G∧(Value.slice a n c0).ownBlock≠some c) w (w7.setCell ⟨G,8,none⟩ (.slice (some ⟨g7,0,none⟩) (n+1) cp)):=(ka.mono (λ_ _ hc=>hc.2)).trans (ks.mono (λ_ _ hc=>hc.1));have c7:∀j,j≠8->(w7.setCell ⟨G,8,none⟩ (.slice (some ⟨g7,0,none⟩) (n+1) cp)).cell? ⟨G,j,none⟩=w.cell? ⟨G,j,none⟩:=λj hj=>by
  rw [World.cell?_setCell_other _ _ _ _ (λe=>hj (congrArg Addr.off e).symm)];exact ka.cell (p:=⟨G,j,none⟩) hG nG
 have f7:∀j,(w7.setCell ⟨G,8,none⟩ (.slice (some ⟨g7,0,none⟩) (n+1) cp)).frozen? ⟨G,j,none⟩=w.frozen? ⟨G,j,none⟩:=λj=>by
  rw [World.frozen?_setCell];exact ka.frozen (p:=⟨G,j,none⟩) hG nG
 have gne:g7≠G∧g7≠Mn∧lv.ownBlock≠some g7∧¬FB KK AA mk sk ma sa tk ta g7:=by
  rcases hat' with e | e
  .exact h.dn g7 e
  .refine ⟨by omega,λe2=>?_,λe2=>?_,λe2=>?_⟩
   .have:=h.z.ln.mp.lt
    omega
   .have:=(World.ownsRow.lt h.z.ln.ow g7 e2).2
    omega
   .have:=h.z.hb g7 e2
    omega
 have hMk:Mn≠G∧(Value.slice a n c0).ownBlock≠some Mn:=⟨h.z.ln.ne.2.2,λe=>(h.dn Mn e).2.1 rfl⟩
 have hln:LN (w7.setCell ⟨G,8,none⟩ (.slice (some ⟨g7,0,none⟩) (n+1) cp)) B1 G LS lv Mn:=⟨(c7 9 (by decide)).trans h.z.ln.c9,(f7 9).trans h.z.ln.f9,aj h.z.ln.ow kk (λc e=>⟨λe2=>h.z.ln.ne.1 (by rw [e,e2]),λe2=>(h.dn c e2).2.2.1 e⟩),(c7 10 (by decide)).trans h.z.ln.c10,h.z.ln.mp.kept kk hMk,h.z.ln.nd,h.z.ln.ne,Nat.le_trans h.z.ln.hv kk.size⟩
 have hz:=h.z.step (L2:=[]) (lv':=lv) (by rw [List.append_nil];exact hln) kk (λc hc=>⟨(h.z.dj c hc).1,λe=>(h.dn c e).2.2.2 hc⟩) (λj h8 _=>c7 j h8) f7 (.inl rfl);rw [List.append_nil] at hz;refine ⟨⟨r1,r2⟩,⟨hz,h.l0,World.cell?_setCell_same _ _ _ r1,(f7 8).trans h.f8,aj hO ks (λc e e2=>gne.1 (by rw [<- e2];exact Option.some.inj e)),λc e=>?_⟩,kk,hat'⟩;have e2:g7=c:=Option.some.inj e;rw [<- e2];exact gne
end
theorem zz204 {P:Prop} (h:P:=by
 rintro e w' ⟨i,L2,lv',rfl,q⟩;exact ⟨_,rfl,i,L2,lv',_,rfl,q,.inr ⟨k,b,rfl,h1,h2,rfl⟩⟩):P:=h
theorem zz233 {P:Prop} (h:P:=by
 rintro e w' ⟨rfl,q⟩;exact ⟨_,rfl,0,[],lv,(0,0),rfl,q,.inl ⟨rfl,rfl⟩⟩):P:=h
section
variable {O:Nat->Nat} {w w':World} {B1 lo G:Nat} {KK AA:List (Nat×Nat)} {mk sk ma sa:Value} {tk ta:Nat} {LS:List (Nat×Nat)} {lv:Value} {Mn:Nat} {nv:Value} {n:Nat} {cs:List Value}
structure Bd (KK AA:List (Nat×Nat)):Prop where
 nk:(KK.map Prod.fst).Nodup
 na:(AA.map Prod.fst).Nodup
 lk:KK.length<=10000000
 la:AA.length<=10000000
 ok:K.off KK KK.length<=5000000
 oa:A.off AA AA.length<=5000000
theorem PN.kid (h:PN O w B1 lo G KK AA mk sk ma sa tk ta LS lv Mn nv n cs) (hb:Bd KK AA) {a:Option Addr} {m cap:Nat} (hd:m=0∨∃k b:Nat,a=some ⟨b,O b,none⟩∧KK[k]? =some (b,m)∧0 < m) (hl:LS.length<=10000000):
  Calls Tryz.prog 51 #[.pointer (some ⟨G,0,none⟩),.slice a m cap] w λe w'=>∃v,e=.returned v∧∃(i:Nat) (L2:List (Nat×Nat)) (lv':Value) (x:Nat×Nat),v=.int .i64 (i:Int)∧LQ w w' B1 G LS lv Mn x i L2 lv'∧KX O KK a m x:=by
 rcases hd with rfl | ⟨k,b,rfl,h1,h2⟩
 .refine (Kq h.z.ln h.l0 a cap).mono ?_
  exact zz233
 .refine (Kt h.z hb.nk h1 h2 hl hb.lk (by have:=hb.ok;omega)).mono ?_
  exact zz204
theorem PN.alt (h:PN O w B1 lo G KK AA mk sk ma sa tk ta LS lv Mn nv n cs) (hb:Bd KK AA) {a:Option Addr} {m cap:Nat} (hd:m=0∨∃k b:Nat,a=some ⟨b,O b,none⟩∧AA[k]? =some (b,m)∧0 < m) (hl:LS.length<=10000000):
  Calls Tryz.prog 93 #[.pointer (some ⟨G,0,none⟩),.slice a m cap] w λe w'=>∃v,e=.returned v∧∃(i:Nat) (L2:List (Nat×Nat)) (lv':Value) (x:Nat×Nat),v=.int .i64 (i:Int)∧LQ w w' B1 G LS lv Mn x i L2 lv'∧AX O KK AA a m x:=by
 rcases hd with rfl | ⟨k,b,rfl,h1,h2⟩
 .refine (Kr h.z.ln h.l0 a cap).mono ?_
  exact zz233
 .refine (Ku h.z hb.na h1 h2 hl hb.la (by have:=hb.oa;omega) (by have:=hb.ok;omega)).mono ?_
  exact zz204
theorem Tryz.info155:(Tryz.prog.info? 155).map (λi=>(i.zero,i.size,i.bytes))=some (some (.agg #[.pointer none,.int .i64 0,.int .i64 0]),3,24):=by kernel_rfl
def ANp (O:Nat->Nat) (w w':World) (B1 lo G:Nat) (KK AA:List (Nat×Nat)) (mk sk ma sa:Value) (tk ta:Nat) (LS:List (Nat×Nat)) (lv:Value) (Mn:Nat) (nv:Value) (n:Nat) (cs:List Value) (p:Value) (ka:Option Addr) (kn:Nat) (aa:Option Addr) (an:Nat):Prop:=
 ∃(i j:Nat) (L2:List (Nat×Nat)) (lv' zN:Value) (x y:Nat×Nat),PN O w' B1 lo G KK AA mk sk ma sa tk ta (LS++L2) lv' Mn zN (n+1) (cs++[p,.int .i64 (i:Int),.int .i64 (j:Int)])∧(LS++L2)[i]? =some x∧KX O KK ka kn x∧(LS++L2)[j]? =some y∧AX O KK AA aa an y∧L2.length<=2∧(∀z∈L2,z=x∨z=y)∧Kept (λc=>c≠G∧c≠Mn∧lv.ownBlock≠some c∧nv.ownBlock≠some c) w w'
theorem Ra (h:PN O w B1 lo G KK AA mk sk ma sa tk ta LS lv Mn nv n cs) (hb:Bd KK AA) {b o:Nat} {ka aa:Option Addr} {kn kc an ac:Nat} (c5:w.cell? ⟨b,o+5,none⟩=some (.slice ka kn kc)) (c6:w.cell? ⟨b,o+6,none⟩=some (.slice aa an ac)) (hbb:FB KK AA mk sk ma sa tk ta b)
  (hk:kn=0∨∃k b:Nat,ka=some ⟨b,O b,none⟩∧KK[k]? =some (b,kn)∧0 < kn) (ha:an=0∨∃k b:Nat,aa=some ⟨b,O b,none⟩∧AA[k]? =some (b,an)∧0 < an) (hl:LS.length<=9999990) (hn:n<=10000000):
  Calls Tryz.prog 71 #[.pointer (some ⟨G,0,none⟩),.pointer (some ⟨b,o,none⟩)] w λe w'=>(∃v,e=.returned v)∧ANp O w w' B1 lo G KK AA mk sk ma sa tk ta LS lv Mn nv n cs (.pointer (some ⟨b,o,none⟩)) ka kn aa an:=by
 obtain ⟨fa,nz,rfl⟩:=kU h.ow;have hG:G < w.heap.size:=block_lt_of_cell h.c8;obtain ⟨b1,b2,b3⟩:=h.z.dj b hbb;have b4:(Value.slice fa n nz).ownBlock≠some b:=λe=>(h.dn b e).2.2.2 hbb
 have hbl:b < w.heap.size:=block_lt_of_cell c5;have hd:=h.keep (Kept.drew (λ_=>True) w);have HK:=hide (hd.kid hb (cap:=kc) hk (by omega));have A5:Hid (∀W5 (i:Nat) (L5:List (Nat×Nat)) (tH:Value) (x5:Nat×Nat),LQ w.drew W5 B1 G LS lv Mn x5 i L5 tH->(W5.cell? ⟨b,o+6,none⟩=some (.slice aa an ac)∧W5.cell? ⟨G,8,none⟩=some (.slice fa n nz))∧Calls Tryz.prog 93 #[.pointer (some ⟨G,0,none⟩),.slice aa an ac] W5 λe w'=>∃v,e=.returned v∧∃(i:Nat) (L2:List (Nat×Nat)) (lv':Value) (x:Nat×Nat),v=.int .i64 (i:Int)∧LQ W5 w' B1 G (LS++L5) tH Mn x i L2 lv'∧AX O KK AA aa an x):=λW5 i L5 tH x5 q=>by
  have p5:=hd.list q;refine ⟨⟨(q.kept.cell (p:=⟨b,o+6,none⟩) hbl ⟨b1,b2,b3⟩).trans c6,p5.c8⟩,p5.alt hb ha ?_⟩
  have:L5.length<=1:=by rcases q.new with e | e <;> simp [e]
  rw [List.length_append];omega
 have A6:Hid (∀W5 W6 (i j:Nat) (L5 L6:List (Nat×Nat)) (tH ui:Value) (x5 x6:Nat×Nat),LQ w.drew W5 B1 G LS lv Mn x5 i L5 tH->LQ W5 W6 B1 G (LS++L5) tH Mn x6 j L6 ui->PN O W6 B1 lo G KK AA mk sk ma sa tk ta (LS++L5++L6) ui Mn (.slice fa n nz) n cs):=λW5 W6 i j L5 L6 tH ui x5 x6 q5 q6=>(hd.list q5).list q6
 have FIN:Hid (∀W5 W6 W7 (i j:Nat) (L5 L6:List (Nat×Nat)) (tH ui zN:Value) (x5 x6:Nat×Nat),LQ w.drew W5 B1 G LS lv Mn x5 i L5 tH->KX O KK ka kn x5->LQ W5 W6 B1 G (LS++L5) tH Mn x6 j L6 ui->AX O KK AA aa an x6->PN O W7 B1 lo G KK AA mk sk ma sa tk ta (LS++L5++L6) ui Mn zN (n+1) (cs++[.pointer (some ⟨b,o,none⟩),.int .i64 (i:Int),.int .i64 (j:Int)])->Kept (λc=>c≠G∧(Value.slice fa n nz).ownBlock≠some c) W6 W7->ANp O w W7 B1 lo G KK AA mk sk ma sa tk ta LS lv Mn (.slice fa n nz) n cs (.pointer (some ⟨b,o,none⟩)) ka kn aa an):=λW5 W6 W7 i j L5 L6 tH ui zN x5 x6 q5 kx q6 ax pn kk=>by
  refine ⟨i,j,L5++L6,ui,zN,x5,x6,by rw [<- List.append_assoc];exact pn,?_,kx,by rw [<- List.append_assoc];exact q6.at_,ax,?_,λz hz=>?_,?_⟩
  .rw [<- List.append_assoc,List.getElem?_append_left (List.getElem?_eq_some_iff.1 q5.at_).1]
   exact q5.at_
  .rw [List.length_append]
   have h1:L5.length<=1:=by rcases q5.new with e | e <;> simp [e]
   have h2:L6.length<=1:=by rcases q6.new with e | e <;> simp [e]
   omega
  .rcases List.mem_append.1 hz with e | e
   .rcases q5.new with e2 | e2
    .rw [e2] at e;cases e
    .rw [e2,List.mem_singleton] at e;exact .inl e
   .rcases q6.new with e2 | e2
    .rw [e2] at e;cases e
    .rw [e2,List.mem_singleton] at e;exact .inr e
  .have s5:=q5.kept.size
   have s6:=q6.kept.size;have sd:w.drew.heap.size=w.heap.size:=rfl;refine ⟨kk.os.trans (q6.kept.os.trans q5.kept.os),kk.tape.trans (q6.kept.tape.trans q5.kept.tape),kk.output.trans (q6.kept.output.trans q5.kept.output),by have:=kk.size;omega,λc hc hs=>?_⟩;have l5:tH.ownBlock≠some c:=by
    rcases q5.blk with e | ⟨r,e,hr⟩
    .rw [e];exact hs.2.2.1
    .rw [e]
     intro e3;have e4:r=c:=Option.some.inj e3;omega
   rw [kk.block c (by omega) ⟨hs.1,hs.2.2.2⟩,q6.kept.block c (by omega) ⟨hs.1,l5,hs.2.1⟩];exact q5.kept.block c hc ⟨hs.1,hs.2.2.1,hs.2.1⟩
 have e5:w.drew.cell? ⟨b,o+5,none⟩=some (.slice ka kn kc):=c5;have e6:w.drew.cell? ⟨b,o+6,none⟩=some (.slice aa an ac):=c6;have e8:w.drew.cell? ⟨G,8,none⟩=some (.slice fa n nz):=h.c8;have h8:=h.c8;have HN:Hid (n+1<=maxLen∧(n+1)* 24<=140737488355328):=by unfold Hid maxLen;omega
 clear h hb hk ha hl hn hG b1 b2 b3 b4 hbl hd hbb;go_enter Tryz.func71,Tryz.ntmps71
 go_upto_region 0 with fail
 go_region_law (first
  | (refine aX (by rfl) 51 #[.pointer (some ⟨G,0,none⟩),.slice ka kn kc] (by simp [go_sem]) _ HK.out ?_;rintro v5 W5 ⟨i5,L5,tH,x5,rfl,q5,kx5⟩;have Q5:=hide q5;have X5:=hide kx5;obtain ⟨⟨f5,f8⟩,cc5⟩:=A5.out W5 i5 L5 tH x5 q5;have C5:=hide cc5;clear q5 kx5 cc5)
  | (refine aX (by rfl) 93 #[.pointer (some ⟨G,0,none⟩),.slice aa an ac] (by simp [go_sem]) _ C5.out ?_;rintro v6 W6 ⟨i6,L6,ui,x6,rfl,q6,ax6⟩;have Q6:=hide q6;have X6:=hide ax6;have P6:=hide (A6.out W5 W6 i5 i6 L5 L6 tH ui x5 x6 Q5.out q6);have g8:=P6.out.c8;have SC:=hide (P6.out.keep (Kept.alloc (λ_=>True) W6 (.cells #[.pointer (some ⟨b,o,none⟩),.int .i64 (i5:Int),.int .i64 (i6:Int)] 155)));have ga8:=SC.out.c8;clear q6 ax6)
  | (refine mG (by rfl) _ _ 140 155 (by rfl) Tryz.info155 Tryz.underlying140 rfl (by decide) B1 _ (.slice fa n nz) n cs [.pointer (some ⟨b,o,none⟩),.int .i64 (i5:Int),.int .i64 (i6:Int)] _ 1 (by rfl) SC.out.ow (by rfl) (bH _ _) SC.out.z.ln.hv rfl (by simp [Value.oneCell']) HN.out.1 HN.out.2 ?_;intro g7 cp w7 gX fB jm;have uT:=hide (SC.out.node gX fB jm);have t1:=uT.out.1.1;have t2:=uT.out.1.2;clear gX fB jm)
  | fail)
 all_goals
  go_end0;exact ⟨⟨_,rfl⟩,FIN.out W5 W6 _ i5 i6 L5 L6 tH ui _ x5 x6 Q5.out X5.out Q6.out X6.out uT.out.2.1 (((Kept.alloc (λ_=>True) W6 _).mono (λ_ _ _=>trivial)).trans uT.out.2.2.1)⟩
end
end Go.Proofs.YthfnobboalhihaaGreat
