import Derived.Test.YtmnligaelihmiaaGc
import Derived.Test.YtmnligaelihmiaaGh
namespace Go.Proofs.Ytmnligaelihmiaa.Gr
variable {e : List (List Int)}
/-- a thing leads to another, by one name at least -/
def Ld (e : List (List Int)) (i k : Nat) : Prop := ∃ b, Rt e i b ∧ Ed e b k
theorem Ld.rt {i k : Nat} (h : Ld e i k) : Rt e i k := by
  obtain ⟨b, h1, h2⟩ := h
  exact h1.tail h2
theorem Rt.ld {i k : Nat} (h : Rt e i k) : i = k ∨ Ld e i k := by
  cases h with
  | refl => exact .inl rfl
  | tail h1 h2 => exact .inr ⟨_, h1, h2⟩
/-- the model's walk from i: marks and the list of things to go on from -/
structure LO (e : List (List Int)) (i : Nat) (row : Nat → Bool) (L : List Nat) : Prop where
  md : ∀ y, row y = true → Ld e i y
  ls : ∀ x ∈ L, x < e.length ∧ (x = i ∨ row x = true)
  cl : ∀ x, (x = i ∨ row x = true) → x ∉ L → ∀ y, Ed e x y → row y = true
/-- at the thing z, its first k names looked at -/
structure LI (e : List (List Int)) (i : Nat) (row : Nat → Bool) (L : List Nat) (z k : Nat) : Prop where
  md : ∀ y, row y = true → Ld e i y
  ls : ∀ x ∈ L, x < e.length ∧ (x = i ∨ row x = true)
  zz : z < e.length ∧ (z = i ∨ row z = true)
  cl : ∀ x, (x = i ∨ row x = true) → x ∉ L → x ≠ z → ∀ y, Ed e x y → row y = true
  ck : ∀ j r (y : Nat), j < k → e[z]? = some r → r[j]? = some (y : Int) → y < e.length → row y = true
theorem LO.start {i : Nat} (hi : i < e.length) : LO e i (fun _ => false) [i] :=
  ⟨fun y h => by simp at h, fun x hx => by simp at hx; subst hx; exact ⟨hi, .inl rfl⟩, fun x hx hn => by
    rcases hx with rfl | h
    · simp at hn
    · simp at h⟩
theorem LO.pop {i z : Nat} {row : Nat → Bool} {L : List Nat} (h : LO e i row (L ++ [z])) : LI e i row L z 0 :=
  ⟨h.md, fun x hx => h.ls x (List.mem_append.2 (.inl hx)), h.ls z (by simp), fun x hx hn hz y hy => h.cl x hx (by simp [hn, hz]) y hy, fun j r y hj => by omega⟩
theorem LI.skip {i z k : Nat} {row : Nat → Bool} {L : List Nat} (h : LI e i row L z k) {r : List Int} (hr : e[z]? = some r) (hs : ∀ y : Nat, r[k]? = some (y : Int) → y < e.length → row y = true) : LI e i row L z (k + 1) :=
  ⟨h.md, h.ls, h.zz, h.cl, fun j r2 y hj hr2 hv hy => by
    by_cases e1 : j = k
    · subst e1; rw [hr] at hr2; cases hr2; exact hs y hv hy
    · exact h.ck j r2 y (by omega) hr2 hv hy⟩
theorem LI.push {i z k y : Nat} {row : Nat → Bool} {L : List Nat} (h : LI e i row L z k) {r : List Int} (hr : e[z]? = some r) (hv : r[k]? = some (y : Int)) (hy : y < e.length) : LI e i (updB row y) (L ++ [y]) z (k + 1) := by
  have up : ∀ x, row x = true → updB row y x = true := fun x hx => by unfold updB; by_cases e1 : x = y <;> simp [e1, hx]
  have un : ∀ x, x ≠ y → updB row y x = row x := fun x hx => by simp [updB, hx]
  have uy : updB row y y = true := by simp [updB]
  have hed : Ed e z y := ⟨hy, r, hr, List.mem_of_getElem? hv⟩
  refine ⟨fun x hx => ?_, fun x hx => ?_, ⟨h.zz.1, h.zz.2.imp id (up z)⟩, fun x hx hn hz w hw => ?_, fun j r2 w hj hr2 hv2 hw => ?_⟩
  · by_cases e1 : x = y
    · subst e1
      rcases h.zz.2 with e2 | e2
      · exact ⟨i, .refl, by rw [← e2]; exact hed⟩
      · exact ⟨z, (h.md z e2).rt, hed⟩
    · rw [un x e1] at hx; exact h.md x hx
  · rcases List.mem_append.1 hx with e1 | e1
    · exact ⟨(h.ls x e1).1, (h.ls x e1).2.imp id (up x)⟩
    · simp at e1; subst e1; exact ⟨hy, .inr uy⟩
  · have hn2 : x ∉ L ∧ x ≠ y := by simpa using hn
    rw [un x hn2.2] at hx
    exact up w (h.cl x hx hn2.1 hz w hw)
  · by_cases e1 : j = k
    · subst e1
      rw [hr] at hr2; cases hr2
      rw [hv] at hv2
      have : y = w := by have := Option.some.inj hv2; omega
      rw [← this]; exact uy
    · exact up w (h.ck j r2 w (by omega) hr2 hv2 hw)
theorem LI.done {i z k : Nat} {row : Nat → Bool} {L : List Nat} (h : LI e i row L z k) {r : List Int} (hr : e[z]? = some r) (hk : r.length ≤ k) : LO e i row L :=
  ⟨h.md, h.ls, fun x hx hn y hy => by
    by_cases e1 : x = z
    · subst e1
      obtain ⟨h1, r2, hr2, hm⟩ := hy
      rw [hr] at hr2; cases hr2
      obtain ⟨j, hj, hjv⟩ := List.getElem_of_mem hm
      exact h.ck j r y (by omega) hr (by rw [List.getElem?_eq_getElem hj, hjv]) h1
    · exact h.cl x hx hn e1 y hy⟩
theorem LO.fin {i : Nat} {row : Nat → Bool} (h : LO e i row []) : ∀ y, row y = true ↔ Ld e i y := fun y => by
  refine ⟨h.md y, ?_⟩
  rintro ⟨b, h1, h2⟩
  have key : ∀ b, Rt e i b → b = i ∨ row b = true := by
    intro b hb
    induction hb with
    | refl => exact .inl rfl
    | tail _ h3 ih => exact .inr (h.cl _ ih (by simp) _ h3)
  exact h.cl b (key b h1) (by simp) y h2
/-- how many are unmarked -/
def uns (n : Nat) (row : Nat → Bool) : Nat := ((List.range n).filter (fun u => (fun _ => 0 : Nat → Nat) u == 0 && !row u)).length
theorem uns_push {n y : Nat} {row : Nat → Bool} (hy : y < n) (h0 : row y = false) : uns n (updB row y) + 1 = uns n row := count_settle (of := fun _ => 0) hy h0 rfl
theorem uns_le (n : Nat) (row : Nat → Bool) : uns n row ≤ n := by
  have := List.length_filter_le (fun u => (fun _ => 0 : Nat → Nat) u == 0 && !row u) (List.range n)
  rw [List.length_range] at this
  exact this
end Go.Proofs.Ytmnligaelihmiaa.Gr
