import Derived.Test.YtmnligaelihmiaaGe
import Derived.Deep.RegionHeld3
namespace Go.Proofs.Ytmnligaelihmiaa
open Go.RowKit Go.Joins
def fld (s : Gr.St) : Nat → Nat → Nat
  | 0 => s.num
  | 1 => s.least
  | 2 => s.nxt
  | _ => s.com
theorem MW.get {n : Nat} {s : Gr.St} {lo T V : Nat} {W : World} {pv ov : Value} (h : MW n s lo T V W pv ov) {x j : Nat} (hx : x < n) (hj : j < 4) : W.cell? ⟨V, x * 4 + j, none⟩ = some (iv (fld s j x)) := by
  obtain ⟨a, b, c, d⟩ := h.vs x hx
  match j, hj with
  | 0, _ => exact a
  | 1, _ => exact b
  | 2, _ => exact c
  | 3, _ => exact d
/-- One number of a visit is set. -/
theorem MW.set {n : Nat} {s s' : Gr.St} {lo T V : Nat} {W : World} {pv ov : Value} (h : MW n s lo T V W pv ov) {y j0 v : Nat} (hy : y < n) (hj0 : j0 < 4) (hp : s'.path = s.path) (ho : s'.opn = s.opn) (hc : s'.cnt = s.cnt) (hf : ∀ j, j < 4 → ∀ x, x < n → fld s' j x = if x = y ∧ j = j0 then v else fld s j x) :
    MW n s' lo T V (W.setCell ⟨V, y * 4 + j0, none⟩ (iv v)) pv ov := by
  have hpV : ∀ c, pv.ownBlock = some c → c ≠ V := fun c hc => by have h1 := h.rp.lt c hc; have h3 := h.vl; omega
  have hoV : ∀ c, ov.ownBlock = some c → c ≠ V := fun c hc => by have h1 := h.ro.lt c hc; have h3 := h.vl; omega
  have kS : Kept (fun c => c ≠ V) W (W.setCell ⟨V, y * 4 + j0, none⟩ (iv v)) := Kept.setCell _ _ _ _ (by simp)
  have key : ∀ x, x < n → ∀ j, j < 4 → (W.setCell ⟨V, y * 4 + j0, none⟩ (iv v)).cell? ⟨V, x * 4 + j, none⟩ = some (iv (fld s' j x)) := fun x hx j hj => by
    rw [hf j hj x hx]
    by_cases e : x = y ∧ j = j0
    · obtain ⟨rfl, rfl⟩ := e
      rw [if_pos ⟨rfl, rfl⟩]
      exact World.cell?_setCell_same _ _ _ (h.get hx hj)
    · rw [if_neg e, World.cell?_setCell_other _ _ _ _ (fun e2 => by
        simp only [Addr.mk.injEq, and_true, true_and] at e2
        omega)]
      exact h.get hx hj
  exact ⟨h.tv, h.tl, h.vl, Nat.le_trans h.ll kS.size, by rw [hc]; exact h.bx.kept kS h.tv, by rw [hp]; exact h.rp.kept kS hpV, by rw [ho]; exact h.ro.kept kS hoV, h.ap, fun x hx => ⟨key x hx 0 (by omega), key x hx 1 (by omega), key x hx 2 (by omega), key x hx 3 (by omega)⟩, fun j => by rw [World.frozen?_setCell]; exact h.vf j⟩
theorem MW.cong {n : Nat} {s s' : Gr.St} {lo T V : Nat} {W : World} {pv ov : Value} (h : MW n s lo T V W pv ov) (hp : s'.path = s.path) (ho : s'.opn = s.opn) (hc : s'.cnt = s.cnt) (hf : ∀ x, x < n → s'.num x = s.num x ∧ s'.least x = s.least x ∧ s'.nxt x = s.nxt x ∧ s'.com x = s.com x) : MW n s' lo T V W pv ov :=
  ⟨h.tv, h.tl, h.vl, h.ll, by rw [hc]; exact h.bx, by rw [hp]; exact h.rp, by rw [ho]; exact h.ro, h.ap, fun x hx => by
    obtain ⟨a, b, c, d⟩ := hf x hx
    rw [a, b, c, d]; exact h.vs x hx, h.vf⟩
theorem fld_least (s : Gr.St) (y v : Nat) : ∀ j, j < 4 → ∀ x, fld { s with least := Gr.upd s.least y v } j x = if x = y ∧ j = 1 then v else fld s j x := by
  intro j hj x
  match j, hj with
  | 0, _ => simp [fld]
  | 1, _ => by_cases e : x = y <;> simp [fld, Gr.upd, e]
  | 2, _ => simp [fld]
  | 3, _ => simp [fld]
/-- The end of the path is taken off. -/
theorem MW.popP {n : Nat} {s : Gr.St} {lo T V b N k cap : Nat} {W : World} {ov : Value} (h : MW n s lo T V W (.slice (some ⟨b, 0, none⟩) N cap) ov) {x : Nat} {p : List Nat} (hp : s.path = x :: p) (hk : k = p.length) :
    MW n { s with path := p } lo T V (W.setCell ⟨T, 1, none⟩ (.slice (some ⟨b, 0, none⟩) k cap)).drew.drew (.slice (some ⟨b, 0, none⟩) k cap) ov := by
  have hTb : ∀ c, (Value.slice (some ⟨b, 0, none⟩) N cap).ownBlock = some c → c ≠ T ∧ c ≠ V := fun c hc => by
    have h1 := h.rp.lt c hc; have h2 := h.tl; have h3 := h.vl; omega
  have hTo : ∀ c, ov.ownBlock = some c → c ≠ T ∧ c ≠ V := fun c hc => by
    have h1 := h.ro.lt c hc; have h2 := h.tl; have h3 := h.vl; omega
  have kS : Kept (fun c => c ≠ T) W (W.setCell ⟨T, 1, none⟩ (.slice (some ⟨b, 0, none⟩) k cap)).drew.drew := ((Kept.setCell _ _ _ _ (by simp)).trans (Kept.drew _ _)).trans (Kept.drew _ _)
  have hVl : V < W.heap.size := Nat.lt_of_lt_of_le h.vl h.ll
  have hVT : V ≠ T := fun e => h.tv e.symm
  have hrev : s.path.reverse = p.reverse ++ [x] := by rw [hp, List.reverse_cons]
  refine ⟨h.tv, h.tl, h.vl, Nat.le_trans h.ll kS.size, ?_, ?_, h.ro.kept kS (fun c hc => (hTo c hc).1), fun c hc => h.ap c hc, fun y hy => ?_, fun j => (kS.frozen (p := ⟨V, j, none⟩) hVl hVT).trans (h.vf j)⟩
  · exact ((h.bx.put 1 (.slice (some ⟨b, 0, none⟩) k cap) (by simp)).kept (Kept.drew (fun _ => True) _) trivial).kept (Kept.drew (fun _ => True) _) trivial
  · have h1 := h.rp.cut (n := k) (by rw [hrev, hk]; simp)
    have h2 : s.path.reverse.take k = p.reverse := by rw [hrev, hk, ← List.length_reverse, List.take_left]
    rw [h2] at h1
    exact h1.kept kS (fun c hc => (hTb c hc).1)
  · obtain ⟨a, b, c, d⟩ := h.vs y hy
    exact ⟨(kS.cell (p := ⟨V, y * 4, none⟩) hVl hVT).trans a, (kS.cell (p := ⟨V, y * 4 + 1, none⟩) hVl hVT).trans b, (kS.cell (p := ⟨V, y * 4 + 2, none⟩) hVl hVT).trans c, (kS.cell (p := ⟨V, y * 4 + 3, none⟩) hVl hVT).trans d⟩
set_option maxHeartbeats 4000000 in
set_option maxRecDepth 100000 in
theorem i_back {n : Nat} {s : Gr.St} {lo T V : Nat} {W : World} {pv ov : Value} (h : MW n s lo T V W pv ov) {x a : Nat} {r : List Nat} (hp : s.path = x :: a :: r) (hx : x < n) (ha : a < n) (hn : n ≤ 1048576) (hl : s.least x < s.num x) (hpl : s.path.length ≤ n) :
    Calls Try.prog 34 #[.pointer (some ⟨T, 0, none⟩)] W fun e W' => e = .returned (.tuple #[]) ∧ (∃ pv' ov', MW n (Gr.back s x a r) lo T V W' pv' ov') ∧ Kept (fun c => c < lo ∧ c ≠ T ∧ c ≠ V) W W' := by
  have HE := hide (end_any h hp (by rw [hp] at hpl; simp at hpl ⊢; omega))
  obtain ⟨pa, cap, rfl, hc1, hc2, hs⟩ := h.rp.shape
  obtain ⟨k, hk⟩ : ∃ k, k = r.length + 1 := ⟨_, rfl⟩
  obtain ⟨N, hN⟩ : ∃ N, N = s.path.reverse.length := ⟨_, rfl⟩
  have hNk : N = k + 1 := by rw [hN, hp, hk]; simp
  rw [← hN] at h hc1
  rcases hs with e | ⟨b, rfl, hb, hbl⟩
  · rw [hp] at e; simp at e
  have c0 := h.bx.cel 0 _ rfl
  have c1 := h.bx.cel 1 _ rfl
  have f1 := h.bx.live 1
  have hki : (N : Int) - 1 = (k : Int) := by omega
  have hkN : (k : Int) ≤ (N : Int) := by omega
  have hkc : k ≤ cap := by omega
  have hxn : (x : Int) < n := by omega
  have hNb : N ≤ 1048576 := by rw [hN, List.length_reverse]; omega
  have H := hide h
  have HN := hide hN
  have HK := hide hNk
  have HK0 := hide hk
  have HNB := hide hNb
  clear hN hNk hk h hpl
  go_enter Try.func34, Try.ntmps34
  go_upto_region 1 with (go_at_call 32; refine HE.out.mono ?_; rintro e W1 ⟨rfl, rfl⟩)
  go_region
  have M1 := H.out.popP hp (k := k) (by rw [HK0.out]; simp)
  have kS : Kept (fun c => c ≠ T) W (W.setCell ⟨T, 1, none⟩ (.slice (some ⟨b, 0, none⟩) k cap)).drew.drew := ((Kept.setCell _ _ _ _ (by simp)).trans (Kept.drew _ _)).trans (Kept.drew _ _)
  generalize (W.setCell ⟨T, 1, none⟩ (.slice (some ⟨b, 0, none⟩) k cap)).drew.drew = V1 at M1 kS ⊢
  have d0 := M1.bx.cel 0 _ rfl
  obtain ⟨v0, v1, v2, v3⟩ := M1.vs x hx
  have hlt : ((s.least x : Nat) : Int) < ((s.num x : Nat) : Int) := by omega
  have HM1 := hide M1
  have HKS := hide kS
  clear M1 kS c0 c1 f1 HE hki hkN hkc hNb
  unfold iv at v0 v1 v2 v3
  dsimp only at v0 v1 v2 v3
  go_upto_region 4 with fail
  obtain ⟨V2, hV2⟩ : ∃ V2, V1.alloc (.cells #[.int .i64 (s.num x : Nat), .int .i64 (s.least x : Nat), .int .i64 (s.nxt x : Nat), .int .i64 (s.com x : Nat)] 57) = V2 := ⟨_, rfl⟩
  rw [hV2]
  have kA : Kept (fun _ => True) V1 V2 := by rw [← hV2]; exact Kept.alloc _ _ _
  have M2 := HM1.out.kept kA trivial trivial (fun _ _ => trivial) (fun _ _ => trivial)
  have bL : Bx V2 V1.heap.size [.int .i64 (s.num x : Nat), .int .i64 (s.least x : Nat), .int .i64 (s.nxt x : Nat), .int .i64 (s.com x : Nat)] := by rw [← hV2]; exact Bx.new _ _ _
  have HE2 : Hid (∀ U, Kept (fun _ => True) V2 U → Calls Try.prog 32 #[.pointer (some ⟨T, 0, none⟩)] U fun e W' => e = .returned (.int .i64 (a : Int)) ∧ W' = U.drew) := fun U kU =>
    end_any (M2.kept kU trivial trivial (fun _ _ => trivial) (fun _ _ => trivial)) (r := r) (by rfl) (by have h1 := HNB.out; have h2 := HN.out; rw [hp] at h2; simp at h2; omega)
  have e0 := M2.bx.cel 0 _ rfl
  have l1 := bL.cel 1 _ rfl
  obtain ⟨u0, u1, u2, u3⟩ := M2.vs a ha
  have fa := M2.vf (a * 4 + 1)
  have han : (a : Int) < n := by omega
  have HM2 := hide M2
  have HKA := hide kA
  have HBL := hide bL
  have HV2 := hide hV2
  clear M2 kA bL hV2 d0 v0 v1 v2 v3 hlt u0 u2 u3
  unfold iv at u1
  dsimp only at u1
  go_region_held3 (fun U => U.cell? ⟨T, 0, none⟩ = some (.slice (some ⟨V, 0, none⟩) n n)) (first | with_reducible exact e0 | exact e0) (first | (go_at_call 32; refine (HE2.out _ (by first | with_reducible exact Kept.refl _ _ | with_reducible exact Kept.drew _ _ | exact (Kept.drew _ _).dr)).mono ?_; rintro e W3 ⟨rfl, rfl⟩))
  rename_i hHeld
  have u1' : V2.drew.drew.cell? ⟨V, a * 4 + 1, none⟩ = some (.int .i64 (s.least a : Nat)) := u1
  have l1' : V2.drew.drew.cell? ⟨V1.heap.size, 1, none⟩ = some (.int .i64 (s.least x : Nat)) := l1
  have fa' : V2.drew.drew.frozen? ⟨V, a * 4 + 1, none⟩ = false := fa
  have k23 : Kept (fun _ => True) V2 V2.drew.drew := (Kept.drew _ _).dr
  have HK23 := hide k23
  clear k23 u1 l1 fa e0 hHeld
  generalize V2.drew.drew = V3 at *
  go_wp2_with fail
  go_region
  go_wp2_with fail
  all_goals
    rename_i hm
    have M3 := (HM2.out.kept HK23.out trivial trivial (fun _ _ => trivial) (fun _ _ => trivial))
    have M4 := (M3.set (s' := { ({ s with path := a :: r } : Gr.St) with least := Gr.upd s.least a (min (s.least a) (s.least x)) }) (v := min (s.least a) (s.least x)) ha (by decide : 1 < 4) rfl rfl rfl (fun j hj x _ => fld_least _ _ _ j hj x)).drew
    first | rw [Nat.min_eq_right (by omega)] at M4 | rw [Nat.min_eq_left (by omega)] at M4
    refine bodyPost_ret (results_none rfl _ _ _) rfl ?_
    refine ⟨rfl, ⟨_, _, M4.cong rfl rfl rfl (fun z _ => ⟨rfl, ?_, rfl, rfl⟩)⟩, ?_⟩
    · first
        | (show Gr.upd _ _ (min _ _) z = _; rw [Nat.min_eq_right (by omega)])
        | (show Gr.upd _ _ (min _ _) z = _; rw [Nat.min_eq_left (by omega)])
    · exact ((((HKS.out.mono (fun c _ h => h.2.1)).trans (HKA.out.mono (fun _ _ _ => trivial))).trans (HK23.out.mono (fun _ _ _ => trivial))).trans (Kept.setCell _ _ _ _ (by simp))).dr
end Go.Proofs.Ytmnligaelihmiaa
