import Derived.Test.YtjfoagmenehapaaGreatDoorQ35
import Derived.Test.YtjfoagmenehapaaGreatDoorQ02
import Derived.Deep.RegionHeld3
import Derived.ProofKit
import Derived.OpenShut
import Derived.ShutString
import Derived.ChangeOld
namespace Go.Proofs.YtjfoagmenehapaaGreatDoor.Tree
open Go.RowKit Go.Joins

/-- Two kids that are alike but for where they lie. -/
def Kn.sim (x y : Kn) : Prop := x.k = y.k ∧ x.nm = y.nm ∧ x.ks.sim y.ks
/-- Two rows of such. -/
def LS : List Kn → List Kn → Prop
  | [], [] => True
  | x :: L, y :: M => x.sim y ∧ LS L M
  | _, _ => False

theorem Fo.sim.ls : ∀ {F G : Fo}, F.sim G → LS F.list G.list
  | .nil, .nil, _ => trivial
  | .cons _ _ _ _ _ _, .cons _ _ _ _ _ _, ⟨a, b, c, d⟩ => ⟨⟨a, b, c⟩, d.ls⟩
  | .nil, .cons _ _ _ _ _ _, h => h.elim
  | .cons _ _ _ _ _ _, .nil, h => h.elim

theorem LS.len : ∀ {L M : List Kn}, LS L M → L.length = M.length
  | [], [], _ => rfl
  | _ :: _, _ :: _, ⟨_, h⟩ => by rw [List.length_cons, List.length_cons, h.len]
  | [], _ :: _, h => h.elim
  | _ :: _, [], h => h.elim
theorem LS.drop : ∀ {L M : List Kn} (n : Nat), LS L M → LS (L.drop n) (M.drop n)
  | [], [], n, _ => by rw [List.drop_nil]; trivial
  | _ :: _, _ :: _, 0, h => h
  | _ :: _, _ :: _, n + 1, ⟨_, h⟩ => h.drop n
  | [], _ :: _, _, h => h.elim
  | _ :: _, [], _, h => h.elim

theorem bnd_sim {x y : Kn} (h : x.sim y) : bndB x = bndB y := by
  obtain ⟨h1, -, h3⟩ := h
  have hl := h3.ls
  unfold bndB
  rw [h1]
  revert hl
  generalize x.ks.list = L
  generalize y.ks.list = M
  intro hl
  match L, M, hl with
  | [], [], _ => rfl
  | [_], [_], _ => rfl
  | [_, _], [_, _], ⟨a, b, _⟩ => simp only [a.1, b.1]
  | _ :: _ :: _ :: _, _ :: _ :: _ :: _, _ => rfl
  | [], _ :: _, h => exact h.elim
  | _ :: _, [], h => exact h.elim
  | [_], _ :: _ :: _, h => exact h.2.elim
  | _ :: _ :: _, [_], h => exact h.2.elim
  | [_, _], _ :: _ :: _ :: _, h => exact h.2.2.elim
  | _ :: _ :: _ :: _, [_, _], h => exact h.2.2.elim

theorem cls_sim {x y : Kn} (h : x.sim y) : ∀ e, e ∈ clsT → e.2 x = e.2 y := by
  have hb := bnd_sim h
  obtain ⟨h1, h2, h3⟩ := h
  have h4 := h3.len
  unfold clsT
  simp only [List.mem_cons, List.not_mem_nil, or_false, forall_eq_or_imp, forall_eq]
  simp only [h1, h2, h4, hb, and_self]

theorem cq_sim (p : ByteArray) {x y : Kn} (h : x.sim y) : cqF p x = cqF p y := by
  unfold cqF
  cases e : clsT.find? (fun e => e.1 == Lib.trimRightS p.data.toList [43, 42]) with
  | none => rfl
  | some c => exact cls_sim h c (List.mem_of_find?_eq_some e)

theorem run_sim (q : Kn → Bool) (hq : ∀ {x y : Kn}, x.sim y → q x = q y) : ∀ {L M : List Kn}, LS L M → run q L = run q M
  | [], [], _ => rfl
  | x :: L, y :: M, ⟨a, h⟩ => by
    have e := hq a
    cases hx : q x with
    | true => rw [run_yes hx, run_yes (e ▸ hx), run_sim q hq h]
    | false => rw [run_no hx, run_no (e ▸ hx)]
  | [], _ :: _, h => h.elim
  | _ :: _, [], h => h.elim

theorem shp_sim : ∀ (PS : List ByteArray) {L M : List Kn}, LS L M → shp cqF PS L = shp cqF PS M
  | [], L, M, h => by show (L.length == 0) = (M.length == 0); rw [h.len]
  | p :: R, L, M, h => by
    show (if run (cqF p) L = 0 ∧ starP p = false then false else shp cqF R (L.drop (if (p.toList == (trimP p).toList) = true then 1 else run (cqF p) L))) = (if run (cqF p) M = 0 ∧ starP p = false then false else shp cqF R (M.drop (if (p.toList == (trimP p).toList) = true then 1 else run (cqF p) M)))
    rw [run_sim (cqF p) (fun h => cq_sim p h) h, shp_sim R (h.drop _)]

theorem alt_sim (q0 q1 : Kn → Bool) (h0 : ∀ {x y : Kn}, x.sim y → q0 x = q0 y) (h1 : ∀ {x y : Kn}, x.sim y → q1 x = q1 y) : ∀ {L M : List Kn} (b : Bool), LS L M → altB q0 q1 b L = altB q0 q1 b M
  | [], [], _, _ => rfl
  | x :: L, y :: M, false, ⟨a, h⟩ => by
    show (q0 x && altB q0 q1 true L) = (q0 y && altB q0 q1 true M)
    rw [h0 a, alt_sim q0 q1 h0 h1 true h]
  | x :: L, y :: M, true, ⟨a, h⟩ => by
    show (q1 x && altB q0 q1 false L) = (q1 y && altB q0 q1 false M)
    rw [h1 a, alt_sim q0 q1 h0 h1 false h]
  | [], _ :: _, _, h => h.elim
  | _ :: _, [], _, h => h.elim

theorem kidsI_sim (k : Int) {L M : List Kn} (h : LS L M) : kidsI k L = kidsI k M := by
  unfold kidsI
  rw [alt_sim _ _ (fun h => by show eK _ = eK _; rw [h.1]) (fun h => by show (_ || _) = (_ || _); rw [h.1]) false h, alt_sim _ _ (fun h => by show pK _ = pK _; rw [h.1]) (fun h => by show (_ && _) = (_ && _); rw [h.1, h.2.2.len]) false h, h.len]
  unfold anyS
  simp only [fun p => shp_sim (remF p p.size 0 none) h]

theorem okI_sim {x y : Kn} (h : x.sim y) : okI x = okI y := by
  unfold okI
  rw [kidsI_sim x.k h.2.2.ls, h.1, h.2.1, h.2.2.len]

theorem Fo.sim.allI : ∀ {F G : Fo}, F.sim G → F.allI = G.allI
  | .nil, .nil, _ => rfl
  | .cons k nm a cap ks r, .cons k' nm' a' cap' ks' r', ⟨h1, h2, h3, h4⟩ => by
    show (okI ⟨k, nm, a, cap, ks⟩ && (ks.allI && r.allI)) = (okI ⟨k', nm', a', cap', ks'⟩ && (ks'.allI && r'.allI))
    rw [okI_sim (x := ⟨k, nm, a, cap, ks⟩) (y := ⟨k', nm', a', cap', ks'⟩) ⟨h1, h2, h3⟩, h3.allI, h4.allI]
  | .nil, .cons _ _ _ _ _ _, h => h.elim
  | .cons _ _ _ _ _ _, .nil, h => h.elim

theorem Fo.sim.pre : ∀ {F G : Fo} (d : Nat), F.sim G → (F.pre d).map Prod.fst = (G.pre d).map Prod.fst
  | .nil, .nil, _, _ => rfl
  | .cons k nm a cap ks r, .cons k' nm' a' cap' ks' r', d, ⟨_, _, h3, h4⟩ => by
    simp only [Fo.pre, List.map_cons, List.map_append, h3.pre, h4.pre]
  | .nil, .cons _ _ _ _ _ _, _, h => h.elim
  | .cons _ _ _ _ _ _, .nil, _, h => h.elim
theorem tooL_fst : ∀ (L M : List (Nat × Value)) (c : Nat), L.map Prod.fst = M.map Prod.fst → tooL L c = tooL M c
  | [], [], _, _ => rfl
  | (d, _) :: L, (d', _) :: M, c, h => by
    simp only [List.map_cons, List.cons.injEq] at h
    obtain ⟨rfl, h⟩ := h
    simp only [tooL, tooL_fst L M (c + 1) h]
  | [], _ :: _, _, h => by simp at h
  | _ :: _, [], _, h => by simp at h

/-- What both answer. -/
def fltV (F : Fo) : Int := if tooL (F.pre 1) 0 = true then 1 else if F.allI = true then 0 else 2
theorem Fo.sim.flt {F G : Fo} (h : F.sim G) : fltV F = fltV G := by
  unfold fltV
  rw [tooL_fst _ _ 0 (h.pre 1), h.allI]

theorem mflt (k : Int) (nm : ByteArray) (a : Option Addr) (cap : Nat) (ks : Fo) (W : World) (hs : ks.Sl W (fun b => b < W.heap.size) a cap) :
    Calls Tryz.prog 5 #[nodeV k nm a ks.len cap] W fun e W' => e = .returned (.int .i64 (fltV (.cons k nm a cap ks .nil))) ∧ Below W.heap.size W W' := by
  have h := mNodeFault k nm a cap ks W hs
  rw [nodeM_eq k nm a cap ks, Fo.nodes_all] at h
  exact h

theorem iflt (k : Int) (nm : ByteArray) (a : Option Addr) (cap : Nat) (ks : Fo) (w : World)
    (hk : (Lit.int .i64 k).wf = true) (hnm : nm.size ≤ maxLen) (hs : ks.Sl w (fun b => b < w.heap.size) a cap) (hsz : ks.size ≤ 1048576) (htb : TbAt w) (ht : TabB w.heap.size w) :
    Calls Tryz.prog 7 #[nodeV k nm a ks.len cap] w fun e W' => e = .returned (.int .i64 (fltV (.cons k nm a cap ks .nil))) ∧ Below w.heap.size w W' := by
  unfold fltV
  cases h : tooL ((Fo.cons k nm a cap ks .nil).pre 1) 0 with
  | true => exact iFaultTrue k nm a cap ks w hk hnm hs hsz h
  | false =>
    have h2 := callsIn_wide.1 (ifault_in 8 (Nat.le_refl _) k nm a cap ks w hk hnm hs hsz h htb ht)
    rw [Fo.nodes_all] at h2
    exact h2

end Go.Proofs.YtjfoagmenehapaaGreatDoor.Tree

namespace Go.Proofs.YtjfoagmenehapaaGreatDoor.Tree
open Go.RowKit Go.Joins

/-- Two rows that are the same are found so. -/
def EqS (F : Fo) : Prop := ∀ (G : Fo) (n0 : Nat) (W : World) (a b : Option Addr) (cap dap : Nat), n0 ≤ W.heap.size → F.sim G → F.Sl W (fun b => b < n0) a cap → G.Sl W (fun b => b < n0) b dap →
  Calls Tryz.prog 18 #[.slice a F.len cap, .slice b G.len dap] W fun e W' => e = .returned (.bool true) ∧ Below W.heap.size W W'

set_option maxHeartbeats 1000000 in
set_option maxRecDepth 100000 in
theorem eq_node {ks : Fo} (hS : EqS ks) (k : Int) (nm : ByteArray) (gs : Fo) (n0 : Nat) (W : World) (a b : Option Addr) (cap dap : Nat) (hn : n0 ≤ W.heap.size) (hsim : ks.sim gs)
    (hs : ks.Sl W (fun b => b < n0) a cap) (ht : gs.Sl W (fun b => b < n0) b dap) :
    Calls Tryz.prog 8 #[nodeV k nm a ks.len cap, nodeV k nm b gs.len dap] W fun e W' => e = .returned (.bool true) ∧ Below W.heap.size W W' := by
  unfold nodeV
  go_enter Tryz.func8, Tryz.ntmps8
  go_wp2_with fail
  have hB0 := below_alloc2 W (.cells #[.int .i64 k, .string nm, .slice a ks.len cap] 29) (.cells #[.int .i64 k, .string nm, .slice b gs.len dap] 29)
  have hz := hB0.size
  refine (hS gs n0 _ a b cap dap (by omega) hsim (hs.below hB0 (fun b x => by omega)) (ht.below hB0 (fun b x => by omega))).mono ?_
  rintro e w1 ⟨rfl, b1⟩
  go_wp2_with fail
  go_ret
  exact ⟨rfl, hB0.trans (b1.mono hz)⟩

set_option maxHeartbeats 1000000 in
set_option maxRecDepth 100000 in
theorem eq_row : ∀ (m : Nat) (F : Fo), F.size < m → EqS F := by
  intro m
  induction m with
  | zero => intro F hF; omega
  | succ m ih =>
    intro F hF G n0 W a b cap dap hn hsim hs ht
    have el := hsim.len
    have hmx : F.len ≤ 9223372036854775807 := by have h2 := hs.1; have h3 := hs.2.1; simp only [maxLen] at h3; omega
    rw [← el]
    clear el
    go_enter Tryz.func18, Tryz.ntmps18
    go_wp2_with fail
    go_loopw [5] (fun s5 wr => ∃ (i : Nat) (r q : Fo), s5 = .int .i64 i ∧ r.len + i = F.len ∧ r.size ≤ F.size ∧ r.sim q ∧
      (0 < r.len → ∃ c o, a = some ⟨c, o, none⟩ ∧ c < n0 ∧ r.Row wr (fun b => b < n0) c (o + i * 3)) ∧
      (0 < q.len → ∃ c o, b = some ⟨c, o, none⟩ ∧ c < n0 ∧ q.Row wr (fun b => b < n0) c (o + i * 3)) ∧ Below W.heap.size W wr) (fun s5 _ => F.len - (intOf s5).toNat)
    case atStart => exact ⟨0, F, G, rfl, rfl, Nat.le_refl _, hsim, hs.2.2, ht.2.2, Below.refl _ _⟩
    case round =>
      obtain ⟨i, r, q, rfl, hlen, hrs, hrq, hrow, hqow, bel⟩ := hrel
      have hw := bel.size
      cases r with
      | nil =>
        simp only [Fo.len] at hlen
        go_wp2_with fail
        go_ret
        exact ⟨rfl, bel⟩
      | cons k nm ka kcap ks r =>
        cases q with
        | nil => exact hrq.elim
        | cons k' nm' ja jcap js q =>
          obtain ⟨rfl, rfl, hks, hrq⟩ := hrq
          simp only [Fo.len, Fo.size] at hlen hrs
          obtain ⟨c, o, rfl, hc, hk, hnm, c1, c2, c3, h4, h5, h6, h7⟩ := hrow (by simp [Fo.len])
          obtain ⟨d, p, rfl, hd, hk', hnm', d1, d2, d3, g4, g5, g6, g7⟩ := hqow (by simp [Fo.len])
          have hs1 : ks.Sl wr (fun b => b < n0) ka kcap := ⟨h4, h5, h6⟩
          have hs2 : js.Sl wr (fun b => b < n0) ja jcap := ⟨g4, g5, g6⟩
          go_wp2_with fail
          have hd0 : Below n0 wr wr.drew := (Below.refl n0 wr).drew
          have H3 : ∀ w1, Below wr.heap.size wr.drew w1 → w1.cell? ⟨c, o + i * 3, none⟩ = some (.int .i64 k) ∧ w1.cell? ⟨c, o + i * 3 + 1, none⟩ = some (.string nm) ∧ w1.cell? ⟨c, o + i * 3 + 2, none⟩ = some (.slice ka ks.len kcap) ∧
              w1.cell? ⟨d, p + i * 3, none⟩ = some (.int .i64 k) ∧ w1.cell? ⟨d, p + i * 3 + 1, none⟩ = some (.string nm) ∧ w1.cell? ⟨d, p + i * 3 + 2, none⟩ = some (.slice ja js.len jcap) := fun w1 b1 =>
            ⟨(b1.cell (p := ⟨c, _, none⟩) (by show c < _; omega)).trans c1, (b1.cell (p := ⟨c, _, none⟩) (by show c < _; omega)).trans c2, (b1.cell (p := ⟨c, _, none⟩) (by show c < _; omega)).trans c3,
              (b1.cell (p := ⟨d, _, none⟩) (by show d < _; omega)).trans d1, (b1.cell (p := ⟨d, _, none⟩) (by show d < _; omega)).trans d2, (b1.cell (p := ⟨d, _, none⟩) (by show d < _; omega)).trans d3⟩
          have HC := fun w1 => eq_node (ih ks (by omega)) k nm js n0 w1 ka ja kcap jcap
          go_region_held3 (fun w1 => w1.cell? ⟨c, o + i * 3, none⟩ = some (.int .i64 k) ∧ w1.cell? ⟨c, o + i * 3 + 1, none⟩ = some (.string nm) ∧ w1.cell? ⟨c, o + i * 3 + 2, none⟩ = some (.slice ka ks.len kcap) ∧
              w1.cell? ⟨d, p + i * 3, none⟩ = some (.int .i64 k) ∧ w1.cell? ⟨d, p + i * 3 + 1, none⟩ = some (.string nm) ∧ w1.cell? ⟨d, p + i * 3 + 2, none⟩ = some (.slice ja js.len jcap))
            (first | exact ⟨c1, c2, c3, d1, d2, d3⟩ | exact H3 _ b1)
            (first | (go_at_call 8; refine (HC wr.drew ?_ hks (hs1.below hd0 (fun _ x => x)) (hs2.below hd0 (fun _ x => x))).mono ?_; exact (by show n0 ≤ wr.heap.size; omega); rintro e w1 ⟨rfl, b1⟩))
          replace b1 : Below wr.heap.size wr.drew w1 := b1
          go_wp2_with fail
          go_roundw
          case rel =>
            have e : ∀ o, o + (i + 1) * 3 = o + i * 3 + 3 := fun o => by omega
            refine ⟨i + 1, r, q, by go_num, by omega, by omega, hrq, fun _ => ⟨c, o, rfl, hc, ?_⟩, fun _ => ⟨d, p, rfl, hd, ?_⟩, bel.drew.trans (b1.mono (by omega))⟩
            · rw [e]; exact (h7.below hd0 (fun _ x => x) hc).below b1 (fun b x => by omega) (by omega)
            · rw [e]; exact (g7.below hd0 (fun _ x => x) hd).below b1 (fun b x => by omega) (by omega)
          case measure => simp [intOf]; omega

end Go.Proofs.YtjfoagmenehapaaGreatDoor.Tree

namespace Go.Proofs.YtjfoagmenehapaaGreatDoor.Tree
open Go.RowKit Go.Joins

theorem gSp : Tryz.prog.globalNamed "strings.asciiSpace" = some 0 := by kernel_rfl
theorem tb_of {w : World} (h : Tab w) : TbAt w := fun c hc => by
  have h2 := Lib.TabIs.cell h gSp c (by rw [Lib.asciiSpaceTab_length]; exact hc)
  rw [h2]
  unfold Lib.asciiSpaceTab
  rw [List.getD_eq_getElem?_getD, List.getElem?_map, List.getElem?_range hc]
  rfl

theorem two_boxes {w6 w : World} {b c : Nat} {x0 x1 x2 y0 y1 y2 : Value} (q1 : Box3 w6 b x0 x1 x2) (q5 : Box3 w6 c y0 y1 y2) (h : Below w6.heap.size w6.drew w) :
    w.cell? ⟨b, 0, none⟩ = some x0 ∧ w.cell? ⟨b, 1, none⟩ = some x1 ∧ w.cell? ⟨b, 2, none⟩ = some x2 ∧ w.cell? ⟨c, 0, none⟩ = some y0 ∧ w.cell? ⟨c, 1, none⟩ = some y1 ∧ w.cell? ⟨c, 2, none⟩ = some y2 :=
  have h' : Below w6.heap.size w6 w := (Below.refl _ _).drew.trans h
  have r1 := q1.below h' q1.lt
  have r5 := q5.below h' q5.lt
  ⟨r1.c0, r1.c1, r1.c2, r5.c0, r5.c1, r5.c2⟩

set_option maxHeartbeats 2000000 in
set_option maxRecDepth 100000 in
theorem lawFlt (k : Int) (nm : ByteArray) (a : Option Addr) (cap : Nat) (ks : Fo) (W : World) (hk : (Lit.int .i64 k).wf = true) (hnm : nm.size ≤ maxLen) (hs : ks.Sl W (fun b => b < W.heap.size) a cap) (htab : TabB W.heap.size W) :
    Calls Tryz.prog 3 #[nodeV k nm a ks.len cap] W fun e W' => e = .returned (.bool true) ∧ Below W.heap.size W W' := by
  have hsz := sz_row _ ks (Nat.le_refl _)
  have hto := to_row _ ks (Nat.lt_succ_self _)
  unfold nodeV
  have q1 := Box3.new W (.int .i64 k) (.string nm) (.slice a ks.len cap) 24
  have bA := below_alloc1 W (.cells #[.int .i64 k, .string nm, .slice a ks.len cap] 24)
  have zA : (W.alloc (.cells #[.int .i64 k, .string nm, .slice a ks.len cap] 24)).heap.size = W.heap.size + 1 := by simp
  by_cases h : (1048576 : Int) < ((nm.size + ks.tot : Nat) : Int)
  · go_enter Tryz.func3, Tryz.ntmps3
    go_wp2_with fail
    refine (sz_node hsz k nm W.heap.size 1048576 _ a cap (by omega) (by omega) (by omega) hnm (hs.below bA (fun _ x => x))).mono ?_
    rintro e w1 ⟨rfl, b1⟩
    rw [szV_lt h]
    go_wp2_with fail
    go_ret
    exact ⟨rfl, bA.trans (b1.mono (by omega))⟩
  · go_enter Tryz.func3, Tryz.ntmps3
    go_wp2_with fail
    generalize W.alloc (.cells #[.int .i64 k, .string nm, .slice a ks.len cap] 24) = A at q1 bA zA ⊢
    have hsA := hs.below bA (fun _ x => x)
    have ht : ks.tot ≤ 1048576 := by omega
    have hsize := ks.size_le
    refine (sz_node hsz k nm W.heap.size 1048576 A a cap (by omega) (by omega) (by omega) hnm hsA).mono ?_
    rintro e w1 ⟨rfl, b1⟩
    rw [szV_ge (by omega)]
    have z1 := b1.size
    replace q1 := q1.below b1 (by omega)
    have hs1 := hsA.below b1 (fun _ x => by omega)
    have B1 := bA.trans (b1.mono (by omega))
    clear b1 bA hsA
    obtain ⟨-, x0, x1, x2, -, -, -⟩ := id q1
    go_wp2_with fail
    refine (to_node hto k nm W.heap.size w1 a cap (by omega) ht hs1).mono ?_
    rintro e w2 ⟨c2, G2, s2, rfl, b2, g2, -⟩
    have z2 := b2.size
    replace q1 := q1.below b2 (by omega)
    have hs2 := hs1.below b2 (fun _ x => by omega)
    have B2 := B1.trans (b2.mono (by omega))
    clear b2 hs1 B1 x0 x1 x2
    obtain ⟨-, x0, x1, x2, -, -, -⟩ := id q1
    go_wp2_with fail
    have hT2 : fltV (.cons k nm (some ⟨c2, 0, none⟩) G2.len G2 .nil) = fltV (.cons k nm a cap ks .nil) := Fo.sim.flt ⟨rfl, rfl, s2, trivial⟩
    refine (mflt k nm (some ⟨c2, 0, none⟩) G2.len G2 w2 (g2.mono (fun _ x => x.2))).mono ?_
    rintro e w3 ⟨rfl, b3⟩
    rw [hT2]
    have z3 := b3.size
    replace q1 := q1.below b3 (by omega)
    have hs3 := hs2.below b3 (fun _ x => by omega)
    have B3 := B2.trans (b3.mono (by omega))
    clear b3 hs2 B2 x0 x1 x2 g2 s2 hT2
    obtain ⟨-, x0, x1, x2, -, -, -⟩ := id q1
    go_wp2_with fail
    refine (to_node hto k nm W.heap.size w3 a cap (by omega) ht hs3).mono ?_
    rintro e w4 ⟨c4, G4, s4, rfl, b4, g4, -⟩
    unfold nodeV
    have z4 := b4.size
    replace q1 := q1.below b4 (by omega)
    have hs4 := hs3.below b4 (fun _ x => by omega)
    have B4 := B3.trans (b4.mono (by omega))
    clear b4 hs3 B3 x0 x1 x2
    obtain ⟨-, x0, x1, x2, -, -, -⟩ := id q1
    have q5 := Box3.new w4 (.int .i64 k) (.string nm) (.slice (some ⟨c4, 0, none⟩) G4.len G4.len) 29
    have b5 := below_alloc1 w4 (.cells #[.int .i64 k, .string nm, .slice (some ⟨c4, 0, none⟩) G4.len G4.len] 29)
    have z5 : (w4.alloc (.cells #[.int .i64 k, .string nm, .slice (some ⟨c4, 0, none⟩) G4.len G4.len] 29)).heap.size = w4.heap.size + 1 := by simp
    have hT4 : fltV (.cons k nm (some ⟨c4, 0, none⟩) G4.len G4 .nil) = fltV (.cons k nm a cap ks .nil) := Fo.sim.flt ⟨rfl, rfl, s4, trivial⟩
    go_wp2_with fail
    generalize w4.alloc (.cells #[.int .i64 k, .string nm, .slice (some ⟨c4, 0, none⟩) G4.len G4.len] 29) = w5 at q5 b5 z5 ⊢
    have g5 := (g4.below b5 (fun _ x => x.2)).mono (T := fun c => c < w5.heap.size) (fun c x => by omega)
    replace q1 := q1.below b5 (by omega)
    have hs5 := hs4.below b5 (fun _ x => by omega)
    have B5 := B4.trans (b5.mono (by omega))
    clear b5 hs4 B4 x0 x1 x2 g4
    refine (iflt k nm (some ⟨c4, 0, none⟩) G4.len G4 w5 hk hnm g5 (by rw [s4.size]; omega) (tb_of (htab w5 B5)) (fun w' kk => htab w' (B5.trans (kk.mono (by omega))))).mono ?_
    rintro e w6 ⟨rfl, b6⟩
    rw [hT4]
    have z6 := b6.size
    have g6 := (g5.below b6 (fun _ x => x)).mono (T := fun c => c < w6.heap.size) (fun c x => by omega)
    replace q1 := q1.below b6 (by omega)
    replace q5 := q5.below b6 (by omega)
    have hs6 := hs5.below b6 (fun _ x => by omega)
    have B6 := B5.trans (b6.mono (by omega))
    clear b6 hs5 B5 g5 hT4
    obtain ⟨-, x0, x1, x2, -, -, -⟩ := id q1
    obtain ⟨-, y0, y1, y2, -, -, -⟩ := id q5
    generalize fltV (.cons k nm a cap ks .nil) = T
    go_wp2_with fail
    have hd : Below w6.heap.size w6 w6.drew := (Below.refl _ _).drew
    have HT := to_node hto k nm W.heap.size w6.drew a cap (by show W.heap.size ≤ w6.heap.size; omega) ht (hs6.below hd (fun _ x => by omega))
    have HE := eq_row _ G4 (Nat.lt_succ_self _)
    unfold nodeV at HT
    go_region_held3 (fun w => w.cell? ⟨W.heap.size, 0, none⟩ = some (.int .i64 k) ∧ w.cell? ⟨W.heap.size, 1, none⟩ = some (.string nm) ∧ w.cell? ⟨W.heap.size, 2, none⟩ = some (.slice a ks.len cap) ∧
        w.cell? ⟨w4.heap.size, 0, none⟩ = some (.int .i64 k) ∧ w.cell? ⟨w4.heap.size, 1, none⟩ = some (.string nm) ∧ w.cell? ⟨w4.heap.size, 2, none⟩ = some (.slice (some ⟨c4, 0, none⟩) G4.len G4.len))
      (first | exact ⟨x0, x1, x2, y0, y1, y2⟩ | exact k7 | exact k8)
      (first
        | (go_at_call 6; refine HT.mono ?_; rintro e w7 ⟨c7, G7, s7, rfl, b7, g7, -⟩; replace b7 : Below w6.heap.size w6.drew w7 := b7; have k7 := two_boxes q1 q5 b7)
        | (go_at_call 8; refine (eq_node HE k nm G7 w7.heap.size w7 (some ⟨c4, 0, none⟩) (some ⟨c7, 0, none⟩) G4.len G7.len (Nat.le_refl _) (s4.trans s7.symm) (((g6.below hd (fun _ x => x)).below b7 (fun _ x => x)).mono (fun _ x => Nat.lt_of_lt_of_le x b7.size)) (g7.mono (fun _ x => x.2))).mono ?_; rintro e w8 ⟨rfl, b8⟩; have k8 := two_boxes q1 q5 (b7.trans (b8.mono b7.size))))
    all_goals
      go_wp2_with fail
      go_ret
      exact ⟨rfl, (B6.trans (hd.mono (by omega))).trans ((b7.trans (b8.mono b7.size)).mono (by omega))⟩

end Go.Proofs.YtjfoagmenehapaaGreatDoor.Tree

namespace Go.Proofs.YtjfoagmenehapaaGreatDoor.Tree
open Go.ChangeShapes Go.WideShapes Go.ChangeAt Go.RowKit Go.Joins

theorem Tryz.own : ownKnob Tryz.prog.godebug = none := by kernel_rfl
theorem Tryz.laidOut : laidOutB Tryz.prog = true := by kernel_rfl
theorem Tryz.cells24 : Tryz.prog.cellsOf 24 = 3 := by kernel_rfl
theorem Tryz.cells22 : Tryz.prog.cellsOf 22 = 1 := by kernel_rfl
theorem Tryz.cells9 : Tryz.prog.cellsOf 9 = 1 := by kernel_rfl
theorem Tryz.cells2 : Tryz.prog.cellsOf 2 = 1 := by kernel_rfl

theorem three_cells {W : World} {b o : Nat} {cs : List Value} (h : W.cells? 0 ⟨b, o, none⟩ 3 = some cs) :
    ∃ u0 u1 u2, cs = [u0, u1, u2] ∧ W.cell? ⟨b, o, none⟩ = some u0 ∧ W.cell? ⟨b, o + 1, none⟩ = some u1 ∧ W.cell? ⟨b, o + 2, none⟩ = some u2 := by
  unfold World.cells? at h
  rw [if_pos (Nat.zero_le _)] at h
  simp only [List.range_succ, List.range_zero, List.nil_append, List.cons_append, List.mapM_cons, List.mapM_nil, addr_add, Nat.add_zero] at h
  cases h0 : W.cell? ⟨b, o, none⟩ with
  | none => simp [h0] at h
  | some u0 =>
    cases h1 : W.cell? ⟨b, o + 1, none⟩ with
    | none => simp [h0, h1] at h
    | some u1 =>
      cases h2 : W.cell? ⟨b, o + 2, none⟩ with
      | none => simp [h0, h1, h2] at h
      | some u2 => simp [h0, h1, h2] at h; exact ⟨u0, u1, u2, h.symm, rfl, rfl, rfl⟩

/-- What a node's three cells say. -/
def NodeC (W : World) (cs : List Value) : Prop :=
  ∃ (k : Int) (nm : ByteArray) (a : Option Addr) (cap : Nat) (ks : Fo), cs = [.int .i64 k, .string nm, .slice a ks.len cap] ∧ (Lit.int .i64 k).wf = true ∧ nm.size ≤ maxLen ∧ ks.Sl W (fun b => b < W.heap.size) a cap

theorem rows_up {W : World} {b o len : Nat} (h : ∀ i, i < len → ∃ cs, W.cells? 0 ⟨b, o + i * 3, none⟩ 3 = some cs ∧ NodeC W cs) :
    ∀ j, j ≤ len → ∃ F : Fo, F.len = j ∧ F.Row W (fun c => c < W.heap.size) b (o + (len - j) * 3) := by
  intro j
  induction j with
  | zero => intro _; exact ⟨.nil, rfl, trivial⟩
  | succ j ih =>
    intro hj
    obtain ⟨F, hF, hR⟩ := ih (by omega)
    obtain ⟨cs, hc, k, nm, a, cap, ks, rfl, hk, hn, hs⟩ := h (len - (j + 1)) (by omega)
    obtain ⟨u0, u1, u2, e, c0, c1, c2⟩ := three_cells hc
    simp only [List.cons.injEq, and_true] at e
    obtain ⟨rfl, rfl, rfl⟩ := e
    refine ⟨.cons k nm a cap ks F, by simp only [Fo.len, hF], hk, hn, c0, c1, c2, hs.1, hs.2.1, hs.2.2, ?_⟩
    have e : o + (len - (j + 1)) * 3 + 3 = o + (len - j) * 3 := by omega
    rw [e]
    exact hR

set_option maxRecDepth 100000 in
theorem node_cells {H : Type} {enc : TypeId × Value → H} {W : World} : ∀ (m : Nat) (cs : List Value) (x : DataW H × List MemPlace),
    DataW.trod enc Tryz.prog W 0 (fun _ => true) true m 24 cs = some x → NodeC W cs := by
  intro m
  induction m using Nat.strongRecOn with
  | ind m ih =>
    intro cs x h
    obtain ⟨xs, n, hm, rfl, hl, hlen, hf⟩ := DataW.trod_struct Tryz.underlying24 h
    rw [Tryz.cells24] at hl
    match cs, hl with
    | [c0, c1, c2], _ =>
      have f0 : DataW.trod enc Tryz.prog W 0 (fun _ => true) true n 2 [c0] = xs[0]? := by
        have := hf 0 { name := "Kind", type := 2, offset := 0, embedded := false, tag := "", pkgPath := "", byteOffset := 0 } rfl
        simpa [Tryz.cells2] using this
      have f1 : DataW.trod enc Tryz.prog W 0 (fun _ => true) true n 9 [c1] = xs[1]? := by
        have := hf 1 { name := "Name", type := 9, offset := 1, embedded := false, tag := "", pkgPath := "", byteOffset := 8 } rfl
        simpa [Tryz.cells9] using this
      have f2 : DataW.trod enc Tryz.prog W 0 (fun _ => true) true n 22 [c2] = xs[2]? := by
        have := hf 2 { name := "Kids", type := 22, offset := 2, embedded := false, tag := "", pkgPath := "", byteOffset := 24 } rfl
        simpa [Tryz.cells22] using this
      match xs, hlen with
      | [y0, y1, y2], _ =>
        simp only [List.getElem?_cons_zero, List.getElem?_cons_succ] at f0 f1 f2
        obtain ⟨k, e0, -, hk⟩ := DataW.trod_int Tryz.underlying2 f0
        obtain ⟨nm, e1, -, hn⟩ := DataW.trod_string Tryz.underlying9 f1
        simp only [List.cons.injEq, and_true] at e0 e1
        subst e0 e1
        rcases DataW.trod_slice Tryz.underlying22 f2 with ⟨e2, -⟩ | ⟨a, len, cap, elems, rest, n', hn', e2, -, -, hlc, hcm, hel, hE, -, -⟩
        · simp only [List.cons.injEq, and_true] at e2
          subst e2
          exact ⟨k, nm, none, 0, .nil, rfl, hk, hn, Nat.le_refl _, Nat.zero_le _, fun h => by simp [Fo.len] at h⟩
        · simp only [List.cons.injEq, and_true] at e2
          subst e2
          rw [Tryz.cells24] at hE
          obtain ⟨b, off, spot⟩ := a
          rcases Nat.eq_zero_or_pos len with h0 | hp
          · subst h0
            exact ⟨k, nm, _, cap, .nil, rfl, hk, hn, by simp only [Fo.len]; omega, hcm, fun h => by simp [Fo.len] at h⟩
          · have hel' : ∀ i, i < len → ∃ cs, W.cells? 0 ((⟨b, off, spot⟩ : Addr).add (i * 3)) 3 = some cs ∧ NodeC W cs := by
              intro i hi
              have h1 := hE i hi
              have h2 : ∃ y, elems[i]? = some y := ⟨elems[i], by simp [hel ▸ hi]⟩
              obtain ⟨y, hy⟩ := h2
              rw [hy, Option.bind_eq_some_iff] at h1
              obtain ⟨cs, hc, ht⟩ := h1
              exact ⟨cs, hc, ih n' (by omega) cs y ht⟩
            have hspot : spot = none := by
              obtain ⟨cs, hc, -⟩ := hel' 0 hp
              unfold World.cells? at hc
              rw [if_pos (Nat.zero_le _)] at hc
              simp only [List.range_succ, List.range_zero, List.nil_append, List.cons_append, List.mapM_cons, List.mapM_nil] at hc
              cases h0 : W.cell? (((⟨b, off, spot⟩ : Addr).add (0 * 3)).add 0) with
              | none => simp [h0] at hc
              | some u => simpa [Addr.add] using World.cell?_spot h0
            subst hspot
            have hel2 : ∀ i, i < len → ∃ cs, W.cells? 0 ⟨b, off + i * 3, none⟩ 3 = some cs ∧ NodeC W cs := fun i hi => by
              have := hel' i hi
              rwa [addr_add] at this
            obtain ⟨F, hF, hR⟩ := rows_up hel2 len (Nat.le_refl _)
            subst hF
            refine ⟨k, nm, _, cap, F, rfl, hk, hn, hlc, hcm, fun _ => ⟨b, off, rfl, ?_, by simpa using hR⟩⟩
            obtain ⟨cs, hc, -⟩ := hel2 0 hp
            obtain ⟨u0, u1, u2, -, c0, -⟩ := three_cells hc
            exact block_lt_of_cell c0

set_option maxRecDepth 100000 in
theorem open_node {H : Type} {enc : TypeId × Value → H} {W : World} {r : Reach} {base : Nat} {v : Value} {d : DataW H} {p : List MemPlace}
    (hv : Value.okWide Tryz.prog W r base 24 v) (h : DataW.Trod enc Tryz.prog W 0 (fun _ => true) true 24 v d p) :
    ∃ (k : Int) (nm : ByteArray) (a : Option Addr) (cap : Nat) (ks : Fo), v = nodeV k nm a ks.len cap ∧ (Lit.int .i64 k).wf = true ∧ nm.size ≤ maxLen ∧ ks.Sl W (fun b => b < W.heap.size) a cap := by
  obtain ⟨cs, rfl, hsz⟩ := okWide_struct Tryz.underlying24 hv
  obtain ⟨fuel, hf⟩ := h
  obtain ⟨k, nm, a, cap, ks, e, h1, h2, h3⟩ := node_cells fuel _ _ hf
  refine ⟨k, nm, a, cap, ks, ?_, h1, h2, h3⟩
  simp only [Value.cells] at e
  unfold nodeV
  congr 1
  apply Array.ext'
  exact e

end Go.Proofs.YtjfoagmenehapaaGreatDoor.Tree

