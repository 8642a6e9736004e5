import Derived.Test.YtjfoagmenehapaaDoorSShow
namespace Go.Proofs.YtjfoagmenehapaaDoor
open Go.RowKit Go.Joins

theorem itoa_ne (k : Int) : Lib.itoa k ≠ [] := by
  unfold Lib.itoa
  split
  · simp
  · rw [Lib.decDigits]
    split <;> simp

theorem showR_ne (k : Int) (nm : ByteArray) (a : Option Addr) (cap : Nat) (ks r : Fo) : showR (.cons k nm a cap ks r) ≠ [] := by
  simp only [showR, alone]
  intro h
  simp [itoa_ne] at h

theorem BR.read {B : Nat} {W : World} {ao : Option Addr} {cap n : Nat} {l : List UInt8} (h : BR B W ao cap n l) (hl : l ≠ []) : n = l.length ∧ ∃ g, ao = some ⟨g, 0, none⟩ ∧ ∀ j (hj : j < l.length), W.cell? ⟨g, j, none⟩ = some (.int .u8 (l[j].toNat : Int)) := by
  obtain ⟨rfl, h1, h2⟩ := h
  refine ⟨rfl, ?_⟩
  rcases h2 with ⟨h2, h3⟩ | ⟨g, cap', cur, fz, e, hg, hb, _, _, _, _, ht⟩
  · exact absurd (List.length_eq_zero_iff.1 h3) hl
  · simp only [Value.slice.injEq] at e
    obtain ⟨rfl, -, -⟩ := e
    refine ⟨g, rfl, fun j hj => ?_⟩
    rw [Lib.cell_of_heap hb]
    have : cur.toList[j]? = some (.int .u8 (l[j].toNat : Int)) := by
      have e : (cur.toList.take (l.length * 1))[j]? = (Lib.byteCells l)[j]? := by rw [ht]
      rw [List.getElem?_take, if_pos (by omega)] at e
      rw [e]
      simp [Lib.byteCells, hj]
    rwa [Array.getElem?_toList] at this

set_option maxHeartbeats 1000000 in
set_option maxRecDepth 100000 in
theorem sshow (k : Int) (nm : ByteArray) (a : Option Addr) (cap : Nat) (ks : Fo) (W : World) (hk : (Lit.int .i64 k).wf = true) (hnm : nm.size + ks.tot ≤ 1048576) (hs : ks.Sl W (fun b => b < W.heap.size) a cap) :
    Calls Tryd.prog 5 #[nodeV k nm a ks.len cap] W fun e W' => e = .returned (.string ⟨(showR (.cons k nm a cap ks .nil)).toArray⟩) ∧ Below W.heap.size W W' := by
  have b1 := below_alloc1 W (.cells #[.int .i64 k, .string nm, .slice a ks.len cap] 29)
  have z1 : (W.alloc (.cells #[.int .i64 k, .string nm, .slice a ks.len cap] 29)).heap.size = W.heap.size + 1 := by simp
  have hC := show_row _ ks (Nat.lt_succ_self _) k nm a cap W.heap.size W.heap.size (W.alloc (.cells #[.int .i64 k, .string nm, .slice a ks.len cap] 29)) none 0 0 [] hk (Nat.le_refl _) (by omega) hnm (by simp; omega) ⟨rfl, rfl, .inl ⟨rfl, rfl⟩⟩ (hs.below b1 (fun _ x => x))
  have hne := showR_ne k nm a cap ks .nil
  rw [List.nil_append] at hC
  generalize showR (.cons k nm a cap ks .nil) = T at hC hne ⊢
  unfold nodeV at hC ⊢
  go_enter Tryd.func5, Tryd.ntmps5
  go_wp2_with fail
  refine hC.mono ?_
  rintro e W2 ⟨ao, c, n, rfl, hR, b2⟩
  obtain ⟨hn, g, rfl, hc⟩ := hR.read hne
  have hcv := run_convert_bytes_back (P := Tryd.prog) W2 34 9 5 ⟨g, 0, none⟩ c T Tryd.underlying34 Tryd.underlying5 Tryd.underlying9 (fun j hj => by rw [addr_add, Nat.zero_add]; exact hc j hj)
  rw [← hn] at hcv
  clear hn hc
  go_wp2_with fail
  go_ret
  exact ⟨rfl, b1.trans b2.1⟩

end Go.Proofs.YtjfoagmenehapaaDoor
