import Derived.Test.YtanjgmmkodlffaaKa
import Derived.Test.YtanjgmmkodlffaaUw
import Derived.Test.YtanjgmmkodlffaaUx
import Derived.Deep.RegionHeld3
import Derived.Deep.DeepCutAuto
namespace Go.Proofs.Ytanjgmmkodlffaa.U
open Go.RowKit Go.Joins

theorem Try.info25 : (Try.prog.info? 25).map (fun i => (i.zero, i.size, i.bytes)) = some (some (.agg #[.int .i64 0, .int .i64 0, .string ⟨#[]⟩, .slice none 0 0]), 4, 56) := by kernel_rfl

/-- A type in hand. -/
def ty4 (k ix : Int) (nm : ByteArray) (a : Option Addr) (n c : Nat) (K : Fo) : Fo := .v (.int .i64 k) (.v (.int .i64 ix) (.v (.string nm) (.s a n c K .nil)))

set_option maxRecDepth 100000 in
theorem i_named (nm : ByteArray) (a : Option Addr) (n c : Nat) (V : World) : Calls Try.prog 25 #[.string nm, .slice a n c] V fun e V' => e = .returned (.agg #[.int .i64 3, .int .i64 0, .string nm, .slice a n c]) ∧ Below V.heap.size V V' := by
  have HB := hide (below_alloc1 V (.cells #[.int .i64 3, .int .i64 0, .string nm, .slice a n c] 25))
  go_enter Try.func25, Try.ntmps25
  go_wp2_with fail
  refine bodyPost_ret (v := .agg #[.int .i64 3, .int .i64 0, .string nm, .slice a n c]) (by simp [results, Try.results25, go_sem]) rfl ⟨rfl, HB.out⟩

set_option maxRecDepth 100000 in
theorem m_gen (k : Int) (V : World) : Calls Try.prog 22 #[.int .i64 k] V fun e V' => e = .returned (.agg #[.int .i64 2, .int .i64 k, .string ⟨#[]⟩, .slice none 0 0]) ∧ Below V.heap.size V V' := by
  have HB := hide (below_alloc1 V (.cells #[.int .i64 2, .int .i64 k, .string ⟨#[]⟩, .slice none 0 0] 25))
  go_enter Try.func22, Try.ntmps22
  go_wp2_with fail
  refine bodyPost_ret (v := .agg #[.int .i64 2, .int .i64 k, .string ⟨#[]⟩, .slice none 0 0]) (by simp [results, Try.results22, go_sem]) rfl ⟨rfl, HB.out⟩

theorem sub_slice {W : World} {B : Nat} {e : TypeId} {size n : Nat} {v : Value} {F : Fo} (h : W.ownsRow B e size v n F.vals) (hs : F.Subs W (fun c => c < W.heap.size)) : ∃ a cap, v = .slice a n cap ∧ Fo.Subs W (fun c => c < W.heap.size) (.s a n cap F .nil) := by
  have hl := h.1
  rcases h.2 with ⟨rfl, rfl⟩ | ⟨g, cap, cur, rfl, hb, hg, hnc, hcm, hcs, ht⟩
  · rw [Fo.vals_length, Nat.zero_mul] at hl
    have e := Fo.len_zero (F := F) (by omega)
    subst e
    exact ⟨none, 0, rfl, ⟨⟨Nat.le_refl _, Nat.zero_le _, fun hl => by simp [Fo.len] at hl⟩, trivial⟩⟩
  · have hlt := (Array.getElem?_eq_some_iff.1 hg).1
    refine ⟨_, cap, rfl, ⟨⟨hnc, hcm, fun _ => ⟨g, 0, rfl, hlt, fun i u hu => ?_, hs⟩⟩, trivial⟩⟩
    have := h.cells (g := g) rfl i u hu
    rwa [addr_add] at this

set_option maxHeartbeats 1000000 in
set_option maxRecDepth 100000 in
theorem m_l8con (nm : ByteArray) (a : Option Addr) (n c : Nat) (K : Fo) (V : World) (S : Nat → Prop) (hS : ∀ c, S c → c < V.heap.size) (hn : n ≤ 2) (hK : K.vals.length = n * 4) (h1 : ∀ u ∈ K.vals, u.oneCell' = true) (hs : Fo.Subs V S (.s a n c K .nil)) :
    Calls Try.prog 21 #[.string nm, .slice a n c] V fun e V' => ∃ a' c', e = .returned (.agg #[.int .i64 3, .int .i64 0, .string nm, .slice a' n c']) ∧ Below V.heap.size V V' ∧ Fo.Subs V' (fun c => S c ∨ V.heap.size < c ∧ c < V'.heap.size) (.s a' n c' K .nil) := by
  obtain ⟨V1, hV1⟩ : ∃ V1, V.alloc (.cells #[.int .i64 0, .int .i64 0, .string ⟨#[]⟩, .slice none 0 0] 25) = V1 := ⟨_, rfl⟩
  obtain ⟨V2, hV2⟩ : ∃ V2, V1.alloc (.cells #[] 25) = V2 := ⟨_, rfl⟩
  have k1 : Kept (fun _ => True) V V1 := by rw [← hV1]; exact Kept.alloc _ _ _
  have k2 : Kept (fun _ => True) V1 V2 := by rw [← hV2]; exact Kept.alloc _ _ _
  have z1 : V1.heap.size = V.heap.size + 1 := by rw [← hV1]; simp
  have z2 : V2.heap.size = V.heap.size + 1 + 1 := by rw [← hV2, World.size_alloc, z1]
  have q1 : Bx V2 V.heap.size [.int .i64 0, .int .i64 0, .string ⟨#[]⟩, .slice none 0 0] := by
    have := Bx.new V [.int .i64 0, .int .i64 0, .string ⟨#[]⟩, .slice none 0 0] 25
    rw [hV1] at this
    exact this.kept k2 trivial
  have hs2 : Fo.Subs V2 S (.s a n c K .nil) := hs.kept (k1.trans k2) (fun b hb => ⟨trivial, hS b hb⟩)
  have HOWN : Hid (V2.ownsRow (V.heap.size + 1) 25 4 (.slice (some ⟨V.heap.size + 1, 0, none⟩) 0 0) 0 []) := by
    refine ⟨rfl, .inr ⟨V.heap.size + 1, 0, #[], rfl, Nat.le_refl _, ?_, Nat.le_refl _, Nat.zero_le _, rfl, rfl⟩⟩
    rw [← hV2]
    have := (MapKept.heap_alloc V1 (.cells #[] 25)).1
    rwa [z1] at this
  have HCK : Hid (0 < n → ∃ b' o, a = some ⟨b', o, none⟩ ∧ Cel V2 K.vals b' o) := fun h0 => by
    obtain ⟨b, o, e1, -, e3, -⟩ := hs2.1.2.2 (by rw [← Fo.vals_length, hK]; omega)
    exact ⟨b, o, e1, e3⟩
  have HV : Hid ((V.alloc (.cells #[.int .i64 0, .int .i64 0, .string ⟨#[]⟩, .slice none 0 0] 25)).alloc (.cells #[] 25) = V2) := by unfold Hid; rw [hV1, hV2]
  have H63 : Hid (0 + n ≤ maxLen ∧ (0 + n) * 56 ≤ 140737488355328) := ⟨by unfold maxLen; omega, by omega⟩
  have HX : Hid (∀ v' w3, w3.ownsRow (V.heap.size + 1) 25 4 v' (0 + n) ([] ++ K.vals) → V2.grownBy w3 (some (V.heap.size + 1)) → Bx w3 V.heap.size [.int .i64 0, .int .i64 0, .string ⟨#[]⟩, .slice none 0 0] ∧ ∃ a c, v' = .slice a n c ∧ ∀ W, Kept (fun c => c ≠ V.heap.size) w3 W → Below V.heap.size V W ∧ Fo.Subs W (fun c => S c ∨ V.heap.size < c ∧ c < W.heap.size) (.s a n c K .nil)) := fun v' w3 hO hG => by
    have k3 : Kept (fun c => c ≠ V.heap.size + 1) V2 w3 := Kept.grown hG (fun k e h => h (by simpa using e.symm))
    rw [List.nil_append, Nat.zero_add] at hO
    have hz3 := k3.size
    have hK3 : 0 < K.len → K.Subs w3 S := fun h0 => by
      obtain ⟨b, o, -, -, -, e4⟩ := hs2.1.2.2 h0
      exact e4.kept k3 (fun b hb => by have := hS b hb; exact ⟨by omega, by omega⟩)
    have hK4 : K.Subs w3 S := by
      by_cases h0 : 0 < K.len
      · exact hK3 h0
      · have e := Fo.len_zero (F := K) (by omega)
        subst e
        trivial
    have hrow := hO.2
    refine ⟨q1.kept k3 (by omega), ?_⟩
    rcases hrow with ⟨rfl, rfl⟩ | ⟨g, cap, cur, rfl, hb, hg, hnc, hcm, hcs, ht⟩
    · have e := Fo.len_zero (F := K) (by rw [← Fo.vals_length, hK]; omega)
      subst e
      exact ⟨none, 0, rfl, fun W kW => ⟨Below.kept (Below.kept ((k1.trans k2).below (fun _ _ => trivial) (Nat.le_refl _)) k3 (fun c hc => by omega) (Nat.le_refl _)) kW (fun c hc => by omega) (Nat.le_refl _), ⟨⟨Nat.le_refl _, Nat.zero_le _, fun hl => by simp [Fo.len] at hl⟩, trivial⟩⟩⟩
    · refine ⟨_, cap, rfl, fun W kW => ⟨Below.kept (Below.kept ((k1.trans k2).below (fun _ _ => trivial) (Nat.le_refl _)) k3 (fun c hc => by omega) (Nat.le_refl _)) kW (fun c hc => by omega) (Nat.le_refl _), ⟨⟨hnc, hcm, fun _ => ⟨g, 0, rfl, ?_, fun i u hu => ?_, ?_⟩⟩, trivial⟩⟩⟩
      · have hlt := (Array.getElem?_eq_some_iff.1 hg).1
        have := kW.size
        exact .inr ⟨by omega, by omega⟩
      · have h2 := hO.cells (g := g) rfl i u hu
        rw [addr_add] at h2
        have hlt := (Array.getElem?_eq_some_iff.1 hg).1
        exact (kW.cell (p := ⟨g, 0 + i, none⟩) hlt (show g ≠ V.heap.size by omega)).trans h2
      · have hzW := kW.size
        exact (hK4.kept kW (fun b hb => by have := hS b hb; exact ⟨by omega, by omega⟩)).mono (fun b hb => .inl hb)
  have HZ : Hid (V.heap.size + 1 ≤ V2.heap.size) := by unfold Hid; omega
  have H1 := hide h1
  have HK := hide hK
  clear hV1 hV2 k1 k2 z1 z2 q1 hs hs2 h1 hK hS
  go_enter Try.func21, Try.ntmps21
  go_wp2_with (at_builtin; rw [HV.out]; refine ur_step rfl _ _ 23 25 rfl Try.info25 Try.underlying23 rfl (by decide) (V.heap.size + 1) V2 (.slice (some ⟨V.heap.size + 1, 0, none⟩) 0 0) 0 [] K.vals a n c rfl rfl HZ.out HOWN.out HCK.out HK.out H1.out H63.out.1 H63.out.2 ?_; rintro v' w3 hO3 hG3; obtain ⟨q3, a3, c3, rfl, x3⟩ := HX.out v' w3 hO3 hG3; have m0 := q3.cel 0 _ rfl; have m1 := q3.cel 1 _ rfl; have m2 := q3.cel 2 _ rfl; have m3 := q3.cel 3 _ rfl; have l0 := q3.live 0; have l1 := q3.live 1; have l2 := q3.live 2; have l3 := q3.live 3; have HX3 := hide x3; clear x3 q3 hO3 hG3)
  refine bodyPost_ret (v := .agg #[.int .i64 3, .int .i64 0, .string nm, .slice a3 n c3]) (by simp [results, Try.results21, go_sem, m0, m1, m2, m3]) rfl ⟨a3, c3, rfl, HX3.out _ ?_⟩
  repeat first | (with_reducible refine Kept.set ?_ (by simp)) | with_reducible exact Kept.refl _ _

theorem Bx.cel_cells {V : World} {b : Nat} {L : List Value} (h : Bx V b L) : Cel V L b 0 := fun i v hv => by rw [Nat.zero_add]; exact h.cel i v hv

def sList : ByteArray := ⟨#[91, 93]⟩
def sArrow : ByteArray := ⟨#[45, 62]⟩

set_option maxHeartbeats 1000000 in
set_option maxRecDepth 100000 in
theorem m_list (kA ixA : Int) (nmA : ByteArray) (aA : Option Addr) (nA cA : Nat) (KA : Fo) (V : World) (S : Nat → Prop) (hS : ∀ c, S c → c < V.heap.size) (hsA : (ty4 kA ixA nmA aA nA cA KA).Subs V S) :
    Calls Try.prog 24 #[.agg #[.int .i64 kA, .int .i64 ixA, .string nmA, .slice aA nA cA]] V fun e V' => ∃ a' c', e = .returned (.agg #[.int .i64 3, .int .i64 0, .string sList, .slice a' 1 c']) ∧ Below V.heap.size V V' ∧ Fo.Subs V' (fun c => S c ∨ V.heap.size ≤ c ∧ c < V'.heap.size) (.s a' 1 c' (ty4 kA ixA nmA aA nA cA KA) .nil) := by
  obtain ⟨V1, hV1⟩ : ∃ W, V.alloc (.cells #[.int .i64 kA, .int .i64 ixA, .string nmA, .slice aA nA cA] 25) = W := ⟨_, rfl⟩
  have k1 : Kept (fun _ => True) V V1 := by rw [← hV1]; exact Kept.alloc _ _ _
  have z1 : V1.heap.size = V.heap.size + 1 := by rw [← hV1, World.size_alloc]
  obtain ⟨V2, hV2⟩ : ∃ W, V1.alloc (.cells #[.int .i64 0, .int .i64 0, .string ⟨#[]⟩, .slice none 0 0] 25) = W := ⟨_, rfl⟩
  have k2 : Kept (fun _ => True) V1 V2 := by rw [← hV2]; exact Kept.alloc _ _ _
  have z2 : V2.heap.size = V.heap.size + 1 + 1 := by rw [← hV2, World.size_alloc, z1]
  obtain ⟨V3, hV3⟩ : ∃ W, V2.alloc (.cells #[.int .i64 kA, .int .i64 ixA, .string nmA, .slice aA nA cA] 25) = W := ⟨_, rfl⟩
  have k3 : Kept (fun _ => True) V2 V3 := by rw [← hV3]; exact Kept.alloc _ _ _
  have z3 : V3.heap.size = V.heap.size + 1 + 1 + 1 := by rw [← hV3, World.size_alloc, z2]
  have qz : Bx V3 (V.heap.size + 1) [.int .i64 0, .int .i64 0, .string ⟨#[]⟩, .slice none 0 0] := by
    have := Bx.new V1 [.int .i64 0, .int .i64 0, .string ⟨#[]⟩, .slice none 0 0] 25
    rw [hV2, z1] at this
    exact this.kept k3 trivial
  have ql : Bx V3 (V.heap.size + 1 + 1) (ty4 kA ixA nmA aA nA cA KA).vals := by
    have := Bx.new V2 (ty4 kA ixA nmA aA nA cA KA).vals 25
    rw [z2] at this
    have e : V2.alloc (.cells (ty4 kA ixA nmA aA nA cA KA).vals.toArray 25) = V3 := hV3
    rw [e] at this
    exact this
  have hKs : (ty4 kA ixA nmA aA nA cA KA).Subs V3 S := (hsA).kept ((k1.trans k2).trans k3) (fun b hb => ⟨trivial, hS b hb⟩)
  have hS2 : Fo.Subs V3 (fun c => S c ∨ c = V.heap.size + 1 + 1) (.s (some ⟨V.heap.size + 1 + 1, 0, none⟩) 1 1 (ty4 kA ixA nmA aA nA cA KA) .nil) := ⟨⟨Nat.le_refl _, by unfold maxLen; omega, fun _ => ⟨_, 0, rfl, .inr rfl, ql.cel_cells, hKs.mono (fun b hb => .inl hb)⟩⟩, trivial⟩
  have HC := hide (m_l8con sList (some ⟨V.heap.size + 1 + 1, 0, none⟩) 1 1 (ty4 kA ixA nmA aA nA cA KA) V3 _ (fun c hc => by rcases hc with h | h; have := hS c h; omega; omega) (by omega) rfl (by simp [ty4, Fo.vals, Value.oneCell']) hS2)
  have HV : Hid (((V.alloc (.cells #[.int .i64 kA, .int .i64 ixA, .string nmA, .slice aA nA cA] 25)).alloc (.cells #[.int .i64 0, .int .i64 0, .string ⟨#[]⟩, .slice none 0 0] 25)).alloc (.cells #[.int .i64 kA, .int .i64 ixA, .string nmA, .slice aA nA cA] 25) = V3) := by unfold Hid; rw [hV1, hV2, hV3]
  have HQ2 := hide qz
  have HB := hide (Kept.below ((k1.trans k2).trans k3) (n := V.heap.size) (fun _ _ => trivial) (Nat.le_refl _))
  have HZ := hide z3
  clear hV1 k1 z1 hV2 k2 z2 hV3 k3 z3 qz ql hKs hS2 hsA
  go_enter Try.func24, Try.ntmps24
  go_wp2_with fail
  rw [HV.out]
  clear HV
  refine HC.out.mono ?_
  rintro e w1 ⟨a', c', rfl, b1, o1⟩
  have q := HQ2.out.below b1
  have m0 := q.cel 0 _ rfl
  have m1 := q.cel 1 _ rfl
  have m2 := q.cel 2 _ rfl
  have m3 := q.cel 3 _ rfl
  have l0 := q.live 0
  have l1 := q.live 1
  have l2 := q.live 2
  have l3 := q.live 3
  have HF : Hid (∀ W, Kept (fun c => c ≠ V.heap.size + 1) w1 W → Below V.heap.size V W ∧ Fo.Subs W (fun c => S c ∨ V.heap.size ≤ c ∧ c < W.heap.size) (.s a' 1 c' (ty4 kA ixA nmA aA nA cA KA) .nil)) := fun W kW => by
    have hz := HZ.out
    have hb := HB.out
    have hzw := kW.size
    have hzb := b1.size
    refine ⟨Below.kept (hb.trans (b1.mono (by omega))) kW (fun c hc => by omega) (Nat.le_refl _), (o1.kept kW (fun c hc => ?_)).mono (fun c hc => ?_)⟩
    · rcases hc with (h | h) | h
      · have := hS c h; exact ⟨by omega, by omega⟩
      · exact ⟨by omega, by omega⟩
      · exact ⟨by omega, by omega⟩
    · rcases hc with (h | h) | h
      · exact .inl h
      · exact .inr ⟨by omega, by omega⟩
      · exact .inr ⟨by omega, by omega⟩
  clear HC b1 o1 q hS
  go_wp2_with fail
  refine bodyPost_ret (v := .agg #[.int .i64 3, .int .i64 0, .string sList, .slice a' 1 c']) (by simp [results, Try.results24, go_sem, m0, m1, m2, m3, sList]) rfl ⟨a', c', rfl, HF.out _ ?_⟩
  repeat first | (with_reducible refine Kept.set ?_ (by simp)) | with_reducible exact Kept.refl _ _

set_option maxHeartbeats 1000000 in
set_option maxRecDepth 100000 in
theorem m_fun (kA ixA : Int) (nmA : ByteArray) (aA : Option Addr) (nA cA : Nat) (KA : Fo) (kB ixB : Int) (nmB : ByteArray) (aB : Option Addr) (nB cB : Nat) (KB : Fo) (V : World) (S : Nat → Prop) (hS : ∀ c, S c → c < V.heap.size) (hsA : (ty4 kA ixA nmA aA nA cA KA).Subs V S) (hsB : (ty4 kB ixB nmB aB nB cB KB).Subs V S) :
    Calls Try.prog 23 #[.agg #[.int .i64 kA, .int .i64 ixA, .string nmA, .slice aA nA cA], .agg #[.int .i64 kB, .int .i64 ixB, .string nmB, .slice aB nB cB]] V fun e V' => ∃ a' c', e = .returned (.agg #[.int .i64 3, .int .i64 0, .string sArrow, .slice a' 2 c']) ∧ Below V.heap.size V V' ∧ Fo.Subs V' (fun c => S c ∨ V.heap.size ≤ c ∧ c < V'.heap.size) (.s a' 2 c' ((ty4 kA ixA nmA aA nA cA KA).app (ty4 kB ixB nmB aB nB cB KB)) .nil) := by
  obtain ⟨V1, hV1⟩ : ∃ W, V.alloc (.cells #[.int .i64 kA, .int .i64 ixA, .string nmA, .slice aA nA cA] 25) = W := ⟨_, rfl⟩
  have k1 : Kept (fun _ => True) V V1 := by rw [← hV1]; exact Kept.alloc _ _ _
  have z1 : V1.heap.size = V.heap.size + 1 := by rw [← hV1, World.size_alloc]
  obtain ⟨V2, hV2⟩ : ∃ W, V1.alloc (.cells #[.int .i64 kB, .int .i64 ixB, .string nmB, .slice aB nB cB] 25) = W := ⟨_, rfl⟩
  have k2 : Kept (fun _ => True) V1 V2 := by rw [← hV2]; exact Kept.alloc _ _ _
  have z2 : V2.heap.size = V.heap.size + 1 + 1 := by rw [← hV2, World.size_alloc, z1]
  obtain ⟨V3, hV3⟩ : ∃ W, V2.alloc (.cells #[.int .i64 0, .int .i64 0, .string ⟨#[]⟩, .slice none 0 0] 25) = W := ⟨_, rfl⟩
  have k3 : Kept (fun _ => True) V2 V3 := by rw [← hV3]; exact Kept.alloc _ _ _
  have z3 : V3.heap.size = V.heap.size + 1 + 1 + 1 := by rw [← hV3, World.size_alloc, z2]
  obtain ⟨V4, hV4⟩ : ∃ W, V3.alloc (.cells #[.int .i64 kA, .int .i64 ixA, .string nmA, .slice aA nA cA, .int .i64 kB, .int .i64 ixB, .string nmB, .slice aB nB cB] 25) = W := ⟨_, rfl⟩
  have k4 : Kept (fun _ => True) V3 V4 := by rw [← hV4]; exact Kept.alloc _ _ _
  have z4 : V4.heap.size = V.heap.size + 1 + 1 + 1 + 1 := by rw [← hV4, World.size_alloc, z3]
  have qz : Bx V4 (V.heap.size + 1 + 1) [.int .i64 0, .int .i64 0, .string ⟨#[]⟩, .slice none 0 0] := by
    have := Bx.new V2 [.int .i64 0, .int .i64 0, .string ⟨#[]⟩, .slice none 0 0] 25
    rw [hV3, z2] at this
    exact this.kept k4 trivial
  have ql : Bx V4 (V.heap.size + 1 + 1 + 1) ((ty4 kA ixA nmA aA nA cA KA).app (ty4 kB ixB nmB aB nB cB KB)).vals := by
    have := Bx.new V3 ((ty4 kA ixA nmA aA nA cA KA).app (ty4 kB ixB nmB aB nB cB KB)).vals 25
    rw [z3] at this
    have e : V3.alloc (.cells ((ty4 kA ixA nmA aA nA cA KA).app (ty4 kB ixB nmB aB nB cB KB)).vals.toArray 25) = V4 := hV4
    rw [e] at this
    exact this
  have hKs : ((ty4 kA ixA nmA aA nA cA KA).app (ty4 kB ixB nmB aB nB cB KB)).Subs V4 S := (hsA.app hsB).kept (((k1.trans k2).trans k3).trans k4) (fun b hb => ⟨trivial, hS b hb⟩)
  have hS2 : Fo.Subs V4 (fun c => S c ∨ c = V.heap.size + 1 + 1 + 1) (.s (some ⟨V.heap.size + 1 + 1 + 1, 0, none⟩) 2 2 ((ty4 kA ixA nmA aA nA cA KA).app (ty4 kB ixB nmB aB nB cB KB)) .nil) := ⟨⟨Nat.le_refl _, by unfold maxLen; omega, fun _ => ⟨_, 0, rfl, .inr rfl, ql.cel_cells, hKs.mono (fun b hb => .inl hb)⟩⟩, trivial⟩
  have HC := hide (m_l8con sArrow (some ⟨V.heap.size + 1 + 1 + 1, 0, none⟩) 2 2 ((ty4 kA ixA nmA aA nA cA KA).app (ty4 kB ixB nmB aB nB cB KB)) V4 _ (fun c hc => by rcases hc with h | h; have := hS c h; omega; omega) (by omega) rfl (by simp [ty4, Fo.app, Fo.vals, Value.oneCell']) hS2)
  have HV : Hid ((((V.alloc (.cells #[.int .i64 kA, .int .i64 ixA, .string nmA, .slice aA nA cA] 25)).alloc (.cells #[.int .i64 kB, .int .i64 ixB, .string nmB, .slice aB nB cB] 25)).alloc (.cells #[.int .i64 0, .int .i64 0, .string ⟨#[]⟩, .slice none 0 0] 25)).alloc (.cells #[.int .i64 kA, .int .i64 ixA, .string nmA, .slice aA nA cA, .int .i64 kB, .int .i64 ixB, .string nmB, .slice aB nB cB] 25) = V4) := by unfold Hid; rw [hV1, hV2, hV3, hV4]
  have HQ2 := hide qz
  have HB := hide (Kept.below (((k1.trans k2).trans k3).trans k4) (n := V.heap.size) (fun _ _ => trivial) (Nat.le_refl _))
  have HZ := hide z4
  clear hV1 k1 z1 hV2 k2 z2 hV3 k3 z3 hV4 k4 z4 qz ql hKs hS2 hsA hsB
  go_enter Try.func23, Try.ntmps23
  go_wp2_with fail
  rw [HV.out]
  clear HV
  refine HC.out.mono ?_
  rintro e w1 ⟨a', c', rfl, b1, o1⟩
  have q := HQ2.out.below b1
  have m0 := q.cel 0 _ rfl
  have m1 := q.cel 1 _ rfl
  have m2 := q.cel 2 _ rfl
  have m3 := q.cel 3 _ rfl
  have l0 := q.live 0
  have l1 := q.live 1
  have l2 := q.live 2
  have l3 := q.live 3
  have HF : Hid (∀ W, Kept (fun c => c ≠ V.heap.size + 1 + 1) w1 W → Below V.heap.size V W ∧ Fo.Subs W (fun c => S c ∨ V.heap.size ≤ c ∧ c < W.heap.size) (.s a' 2 c' ((ty4 kA ixA nmA aA nA cA KA).app (ty4 kB ixB nmB aB nB cB KB)) .nil)) := fun W kW => by
    have hz := HZ.out
    have hb := HB.out
    have hzw := kW.size
    have hzb := b1.size
    refine ⟨Below.kept (hb.trans (b1.mono (by omega))) kW (fun c hc => by omega) (Nat.le_refl _), (o1.kept kW (fun c hc => ?_)).mono (fun c hc => ?_)⟩
    · rcases hc with (h | h) | h
      · have := hS c h; exact ⟨by omega, by omega⟩
      · exact ⟨by omega, by omega⟩
      · exact ⟨by omega, by omega⟩
    · rcases hc with (h | h) | h
      · exact .inl h
      · exact .inr ⟨by omega, by omega⟩
      · exact .inr ⟨by omega, by omega⟩
  clear HC b1 o1 q hS
  go_wp2_with fail
  refine bodyPost_ret (v := .agg #[.int .i64 3, .int .i64 0, .string sArrow, .slice a' 2 c']) (by simp [results, Try.results23, go_sem, m0, m1, m2, m3, sArrow]) rfl ⟨a', c', rfl, HF.out _ ?_⟩
  repeat first | (with_reducible refine Kept.set ?_ (by simp)) | with_reducible exact Kept.refl _ _

end Go.Proofs.Ytanjgmmkodlffaa.U
