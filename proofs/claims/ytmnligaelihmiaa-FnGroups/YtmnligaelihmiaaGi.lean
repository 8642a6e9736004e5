import Derived.Test.YtmnligaelihmiaaGg
import Derived.Test.YtmnligaelihmiaaGh
namespace Go.Proofs.Ytmnligaelihmiaa
open Go.RowKit Go.Joins
/-- The lists in memory, below n0. -/
def EM (e : List (List Int)) (n0 : Nat) (ea : Option Addr) (W : World) : Prop := ∀ x r, e[x]? = some r → ∃ eb eo ax cx, ea = some ⟨eb, eo, none⟩ ∧ eb < n0 ∧ W.cell? ⟨eb, eo + x, none⟩ = some (.slice ax r.length cx) ∧ ∀ j v, r[j]? = some v → ∃ bb oo, ax = some ⟨bb, oo, none⟩ ∧ bb < n0 ∧ W.cell? ⟨bb, oo + j, none⟩ = some (.int .i64 v)
theorem EM.kept {e : List (List Int)} {n0 : Nat} {ea : Option Addr} {W W' : World} {S : Nat → Prop} (h : EM e n0 ea W) (k : Kept S W W') (hS : ∀ c, c < n0 → S c) (hn : n0 ≤ W.heap.size) : EM e n0 ea W' := fun x r hr => by
  obtain ⟨eb, eo, ax, cx, h1, h2, h3, h4⟩ := h x r hr
  refine ⟨eb, eo, ax, cx, h1, h2, (k.cell (p := ⟨eb, eo + x, none⟩) (by show eb < _; omega) (hS _ h2)).trans h3, fun j v hv => ?_⟩
  obtain ⟨bb, oo, g1, g2, g3⟩ := h4 j v hv
  exact ⟨bb, oo, g1, g2, (k.cell (p := ⟨bb, oo + j, none⟩) (by show bb < _; omega) (hS _ g2)).trans g3⟩
def WK (lo T V : Nat) (c : Nat) : Prop := c < lo ∧ c ≠ T ∧ c ≠ V
def wf (T EB WB : Nat) : Value := .func (.func 31) #[] #[.pointer (some ⟨T, 0, none⟩), .pointer (some ⟨EB, 0, none⟩), .pointer (some ⟨WB, 0, none⟩)]
/-- What the closure finds. -/
structure WS (e : List (List Int)) (n0 lo T V EB WB : Nat) (ea : Option Addr) (ec : Nat) (s : Gr.St) (W : World) : Prop where
  inv : Gr.Inv e s
  mw : ∃ pv ov, MW e.length s lo T V W pv ov
  eb : W.cell? ⟨EB, 0, none⟩ = some (.slice ea e.length ec)
  wb : W.cell? ⟨WB, 0, none⟩ = some (wf T EB WB)
  em : EM e n0 ea W
  bl : n0 ≤ T ∧ n0 ≤ V ∧ WK lo T V EB ∧ WK lo T V WB
  ll : lo ≤ W.heap.size
theorem WS.next {e : List (List Int)} {n0 lo T V EB WB : Nat} {ea : Option Addr} {ec : Nat} {s s' : Gr.St} {W W' : World} (h : WS e n0 lo T V EB WB ea ec s W) (hi : Gr.Inv e s') (hm : ∃ pv ov, MW e.length s' lo T V W' pv ov) (k : Kept (WK lo T V) W W') : WS e n0 lo T V EB WB ea ec s' W' := by
  have h1 := h.ll
  obtain ⟨pv, ov, m⟩ := h.mw
  have hTl := m.tl
  refine ⟨hi, hm, (k.cell (p := ⟨EB, 0, none⟩) (Nat.lt_of_lt_of_le h.bl.2.2.1.1 h1) h.bl.2.2.1).trans h.eb, (k.cell (p := ⟨WB, 0, none⟩) (Nat.lt_of_lt_of_le h.bl.2.2.2.1 h1) h.bl.2.2.2).trans h.wb, h.em.kept k (fun c hc => ?_) ?_, h.bl, Nat.le_trans h1 k.size⟩
  · have := h.bl.1; have := h.bl.2.1; exact ⟨by omega, by omega, by omega⟩
  · have := h.bl.1; omega
theorem WS.drew {e : List (List Int)} {n0 lo T V EB WB : Nat} {ea : Option Addr} {ec : Nat} {s : Gr.St} {W : World} (h : WS e n0 lo T V EB WB ea ec s W) : WS e n0 lo T V EB WB ea ec s W.drew :=
  h.next h.inv (by obtain ⟨pv, ov, m⟩ := h.mw; exact ⟨pv, ov, m.drew⟩) (Kept.drew _ _)
/-- A number within bounds. -/
theorem is_index (v : Int) (n : Nat) (q : Bool) (hq : q = true ↔ 0 ≤ v ∧ v < n) (W : World) : Calls Try.prog 28 #[.int .i64 v, .int .i64 (n : Int)] W fun e W' => e = .returned (.bool q) ∧ W' = W := by
  by_cases h0 : 0 ≤ v
  · by_cases h1 : v < n
    · have HQ : Hid (q = true) := hq.2 ⟨h0, h1⟩
      clear hq
      go_enter Try.func28, Try.ntmps28
      go_wp2_with fail
      go_ret
      exact ⟨by rw [HQ.out]; rfl, rfl⟩
    · have HQ : Hid (q = false) := by cases q with
        | false => rfl
        | true => exact absurd (hq.1 rfl).2 h1
      clear hq
      go_enter Try.func28, Try.ntmps28
      go_wp2_with fail
      go_ret
      rw [HQ.out]
      exact ⟨by simp, rfl⟩
  · have HQ : Hid (q = false) := by cases q with
      | false => rfl
      | true => exact absurd (hq.1 rfl).1 h0
    clear hq
    go_enter Try.func28, Try.ntmps28
    go_wp2_with fail
    go_ret
    rw [HQ.out]
    exact ⟨by simp, rfl⟩
/-- Where the end leads to one ahead of it, there is one ahead on the path. -/
theorem back_ne {e : List (List Int)} {s : Gr.St} (h : Gr.Inv e s) {x : Nat} {p : List Nat} (hp : s.path = x :: p) (hl : s.least x < s.num x) : ∃ a r, p = a :: r := by
  cases p with
  | cons a r => exact ⟨a, r, rfl⟩
  | nil =>
    obtain ⟨-, y, hy, hy2, -⟩ := h.l1 x (by rw [hp]; simp)
    obtain ⟨t, ht, -⟩ := h.up y hy
    have h1 := ht.1
    rw [hp] at h1
    have h2 := ht.2.1
    rw [List.mem_singleton.1 h1] at h2
    omega
/-- Leaving: the end of the path is taken off. -/
theorem i_leave {e : List (List Int)} {n0 lo T V EB WB : Nat} {ea : Option Addr} {ec : Nat} {s : Gr.St} {W : World} (h : WS e n0 lo T V EB WB ea ec s W) (hn : e.length ≤ 1048576) {x : Nat} {p : List Nat} (hp : s.path = x :: p) (hall : ∀ y, Gr.Ed e x y → Gr.lk e s x y) :
    Calls Try.prog 34 #[.pointer (some ⟨T, 0, none⟩)] W fun r W' => r = .returned (.tuple #[]) ∧ ∃ s', WS e n0 lo T V EB WB ea ec s' W' ∧ Kept (WK lo T V) W W' ∧ Gr.meas e s' + 1 = Gr.meas e s ∧ s'.path = p ∧ ∀ z, 0 < s.num z → 0 < s'.num z := by
  obtain ⟨pv, ov, m⟩ := h.mw
  have hx := h.inv.path_open (x := x) (by rw [hp]; simp)
  have hpl := h.inv.path_len
  by_cases hl : s.least x < s.num x
  · obtain ⟨a, r, rfl⟩ := back_ne h.inv hp hl
    have ha := h.inv.path_open (x := a) (by rw [hp]; simp)
    refine (i_back m hp hx.1 ha.1 hn hl hpl).mono ?_
    rintro v W' ⟨rfl, h1, h2⟩
    exact ⟨rfl, _, h.next (h.inv.back hp hall hl) h1 h2, h2, Gr.meas_back hp, rfl, fun z hz => hz⟩
  · obtain ⟨G, O, ho, hG⟩ := h.inv.parts hp
    refine (i_close m hp ho hx.1 hG (fun z hz => ((h.inv.op z).1 hz).1) h.inv.opn_len hn (by omega) hpl).mono ?_
    rintro v W' ⟨rfl, h1, h2⟩
    refine ⟨rfl, _, h.next (h.inv.close hp ho hall (by omega)) h1 h2, h2, Gr.meas_close hp, rfl, fun z hz => ?_⟩
    show 0 < (if z ∈ G ∨ z = x then Gr.B else s.num z)
    split
    · simp [Gr.B]
    · exact hz
end Go.Proofs.Ytmnligaelihmiaa
