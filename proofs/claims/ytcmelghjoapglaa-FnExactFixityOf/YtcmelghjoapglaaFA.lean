import Derived.Test.YtcmelghjoapglaaRows
import Derived.Test.YtcmelghjoapglaaIt
import Derived.WalkSpells
import Derived.WalkLawsBesides
import Derived.Deep.OwnRows
import Derived.Deep.QuietTactic
import Derived.BigQuiet
import Derived.Deep.RegionWith
import Derived.Lib.SmallJoins
namespace Go.Proofs.Ytcmelghjoapglaa
open Go.RowKit Go.Joins

theorem addr_add (b o j : Nat) : (⟨b, o, none⟩ : Addr).add j = ⟨b, o + j, none⟩ := by unfold Addr.add; split <;> simp_all

theorem hide {p : Prop} (h : p) : Hid p := h

theorem ret_int {k : IntKind} {a b : Int} (h : a = b) : Ending.returned (.int k a) = .returned (.int k b) := by rw [h]

/-- A fixity. -/
structure Fx where
  nm : ByteArray
  sd : Int
  lv : Int

def fv (x : Fx) : Value := .agg #[.string x.nm, .int .i64 x.sd, .int .i64 x.lv]

/-- A fixity's own facts. -/
structure Fx.Ok (x : Fx) : Prop where
  s : (Lit.int .i64 x.sd).wf = true
  l : (Lit.int .i64 x.lv).wf = true
  n : x.nm.size ≤ maxLen

/-- The row lies in block b from cell o on. -/
def FRow (W : World) (L : List Fx) (b o : Nat) : Prop :=
  ∀ (i : Nat) (x : Fx), L[i]? = some x → W.cell? ⟨b, o + i * 3, none⟩ = some (.string x.nm) ∧ W.cell? ⟨b, o + i * 3 + 1, none⟩ = some (.int .i64 x.sd) ∧ W.cell? ⟨b, o + i * 3 + 2, none⟩ = some (.int .i64 x.lv)

/-- A slice's value holds the row. -/
structure FSl (W : World) (n0 : Nat) (a : Option Addr) (cap : Nat) (L : List Fx) : Prop where
  len : L.length ≤ cap
  cap : cap ≤ maxLen
  ok : ∀ x ∈ L, x.Ok
  row : 0 < L.length → ∃ b o, a = some ⟨b, o, none⟩ ∧ b < n0 ∧ FRow W L b o

theorem FRow.below {A B : World} {n : Nat} {L : List Fx} {b o : Nat} (h : FRow A L b o) (k : Below n A B) (hb : b < n) : FRow B L b o := fun i x hx => by
  obtain ⟨h1, h2, h3⟩ := h i x hx
  exact ⟨(k.cell (p := ⟨b, _, none⟩) hb).trans h1, (k.cell (p := ⟨b, _, none⟩) hb).trans h2, (k.cell (p := ⟨b, _, none⟩) hb).trans h3⟩

theorem FSl.below {A B : World} {n n0 : Nat} {L : List Fx} {a : Option Addr} {cap : Nat} (h : FSl A n0 a cap L) (k : Below n A B) (hb : n0 ≤ n) : FSl B n0 a cap L :=
  ⟨h.len, h.cap, h.ok, fun hl => by obtain ⟨b, o, e, s, x⟩ := h.row hl; exact ⟨b, o, e, s, x.below k (by omega)⟩⟩

theorem FSl.mono {A : World} {n n0 : Nat} {L : List Fx} {a : Option Addr} {cap : Nat} (h : FSl A n0 a cap L) (hb : n0 ≤ n) : FSl A n a cap L :=
  ⟨h.len, h.cap, h.ok, fun hl => by obtain ⟨b, o, e, s, x⟩ := h.row hl; exact ⟨b, o, e, by omega, x⟩⟩

/-- Bytes of names. -/
def ns : List Fx → Nat
  | [] => 0
  | x :: r => x.nm.size + ns r

theorem ns_take : ∀ (L : List Fx) (i : Nat) (x : Fx), L[i]? = some x → ns (L.take (i + 1)) = ns (L.take i) + x.nm.size
  | [], i, x, h => by simp at h
  | y :: r, 0, x, h => by simp at h; subst h; simp [ns]
  | y :: r, i + 1, x, h => by
    simp only [List.getElem?_cons_succ] at h
    simp only [List.take_succ_cons, ns]
    rw [ns_take r i x h]
    omega

theorem ns_take_le : ∀ (L : List Fx) (i : Nat), ns (L.take i) ≤ ns L
  | [], i => by simp
  | y :: r, 0 => by simp [ns]
  | y :: r, i + 1 => by
    simp only [List.take_succ_cons, ns]
    have := ns_take_le r i
    omega

/-- Fixities and bytes of names. -/
def ft (L : List Fx) : Nat := L.length + ns L

/-- The law's own reckoning of sizes. -/
def szV (left : Int) (n : Nat) : Int := if left < n then -1 else left - n

theorem szV_lt {left : Int} {n : Nat} (h : left < n) : szV left n = -1 := if_pos h
theorem szV_ge {left : Int} {n : Nat} (h : ¬ left < n) : szV left n = left - n := if_neg h

set_option maxHeartbeats 1000000 in
set_option maxRecDepth 100000 in
theorem sz_one (x : Fx) (left : Int) (W : World) (h0 : 0 ≤ left) (h1 : left ≤ 1048576) (hx : x.Ok) :
    Calls Try.prog 10 #[fv x, .int .i64 left] W fun e W' => e = .returned (.int .i64 (szV left x.nm.size)) ∧ Below W.heap.size W W' := by
  unfold fv
  obtain ⟨nm, sd, lv⟩ := x
  have hmx : nm.size ≤ 9223372036854775807 := by have := hx.n; simp only [maxLen] at this; omega
  by_cases h : left < nm.size
  · go_enter Try.func10, Try.ntmps10
    go_wp2_with fail
    go_ret
    exact ⟨by rw [szV_lt (by omega)]; rfl, below_alloc1 _ _⟩
  · go_enter Try.func10, Try.ntmps10
    go_wp2_with fail
    go_ret
    exact ⟨by rw [szV_ge (by omega)]; exact ret_int (by omega), below_alloc1 _ _⟩

set_option maxHeartbeats 1000000 in
set_option maxRecDepth 100000 in
theorem sz_all (L : List Fx) (left : Int) (W : World) (a : Option Addr) (cap : Nat) (h0 : 0 ≤ left) (h1 : left ≤ 1048576) (hs : FSl W W.heap.size a cap L) :
    Calls Try.prog 4 #[.slice a L.length cap, .int .i64 left] W fun e W' => e = .returned (.int .i64 (szV left (ft L))) ∧ Below W.heap.size W W' := by
  have hmx : L.length ≤ 9223372036854775807 := by have h2 := hs.len; have h3 := hs.cap; simp only [maxLen] at h3; omega
  unfold ft
  by_cases h : left < L.length
  · go_enter Try.func4, Try.ntmps4
    go_wp2_with fail
    go_ret
    exact ⟨by rw [szV_lt (by omega)]; rfl, Below.refl _ _⟩
  · go_enter Try.func4, Try.ntmps4
    go_wp2_with fail
    go_loopw [1, 5] (fun s1 s5 wr => ∃ (M : Int) (i : Nat), s1 = .int .i64 M ∧ s5 = .int .i64 i ∧ i ≤ L.length ∧ 0 ≤ M ∧ M + L.length + ns (L.take i) = left ∧ Below W.heap.size W wr) (fun _ s5 _ => L.length - (intOf s5).toNat)
    case atStart => exact ⟨left - L.length, 0, rfl, rfl, by omega, by omega, by simp [ns], Below.refl _ _⟩
    case round =>
      obtain ⟨M, i, rfl, rfl, hi, hM0, hM, bel⟩ := hrel
      by_cases hl : i < L.length
      · obtain ⟨x, hx⟩ : ∃ x, L[i]? = some x := ⟨L[i], by simp [hl]⟩
        obtain ⟨b, o, rfl, hb, hrow⟩ := hs.row (by omega)
        have hok := hs.ok x (List.mem_of_getElem? hx)
        obtain ⟨c1, c2, c3⟩ := (hrow.below bel hb) i x hx
        have e1 := ns_take L i x hx
        have e2 := ns_take_le L (i + 1)
        have hl' : (i : Int) < L.length := by omega
        have HZ := hide (sz_one x M wr hM0 (by omega) hok)
        unfold fv at HZ
        by_cases h2 : M < (x.nm.size : Int)
        · go_wp2_with fail
          refine HZ.out.mono ?_
          rintro e w1 ⟨rfl, b1⟩
          rw [szV_lt (by omega)]
          go_wp2_with fail
          go_ret
          exact ⟨by rw [szV_lt (by omega)]; rfl, bel.trans (b1.mono bel.size)⟩
        · go_wp2_with fail
          refine HZ.out.mono ?_
          rintro e w1 ⟨rfl, b1⟩
          rw [szV_ge (by omega)]
          go_wp2_with fail
          go_roundw
          case rel => exact ⟨M - x.nm.size, i + 1, by go_num, by go_num, by omega, by omega, by omega, bel.trans (b1.mono bel.size)⟩
          case measure => simp [intOf]; omega
      · obtain rfl : i = L.length := by omega
        rw [List.take_length] at hM
        go_wp2_with fail
        go_ret
        exact ⟨by rw [szV_ge (by omega)]; exact ret_int (by omega), bel⟩

end Go.Proofs.Ytcmelghjoapglaa
