import Derived.Test.YtpcnmolncoaddaaRead4
namespace Go.Proofs.Ytpcnmolncoaddaa
open Go.RowKit Go.Joins

theorem ext_lt2 {n : Nat} {f : Nat → Nat} (hf : ∀ i, i < n → f i < 4294967296) (i : Nat) : ext n f i < 4294967296 := by
  unfold ext; split
  · exact hf i (by assumption)
  · omega
theorem ext_of_lt {n i : Nat} (f : Nat → Nat) (h : i < n) : ext n f i = f i := by unfold ext; rw [if_pos h]
theorem val_ext_le (f : Nat → Nat) {n k : Nat} (h : n ≤ k) : val (ext n f) k = val f n := by
  rw [val_zeros h (fun i h1 _ => by unfold ext; rw [if_neg (by omega)])]
  exact val_congr (fun i hi => ext_of_lt f hi)
theorem norm_trim {f : Nat → Nat} {k N : Nat} (hf : ∀ i, i < k → f i < 4294967296) (hv : Go.Proofs.Ytpcnmolncoaddaa.val f k = N) : Norm (ext (trimN f k) f) (trimN f k) N where
  lt := ext_lt2 (fun i hi => hf i (by have := trimN_le f k; omega))
  zero := fun i hi => by unfold ext; rw [if_neg (by omega)]
  top := fun h => by rw [ext_of_lt _ (by omega)]; exact trimN_top f k h
  val := by rw [val_ext_le f (Nat.le_refl _), val_trim, hv]

/-- A round of the model's reading: times ten, and a digit more. -/
theorem norm_step {f : Nat → Nat} {n M d : Nat} (h : Norm (ext n f) n M) (hd : d < 4294967296) (n1 : Nat) (P : Nat → Nat) (hP : P = mulP (ext n f) (ext 1 (fun _ => 10)) 1 n) (h1 : n1 = trimN P (n + 1)) :
    Norm (ext (trimN (addD (ext n1 P) (ext (trimN (fun _ => d) 1) (fun _ => d))) (max n1 (trimN (fun _ => d) 1) + 1)) (addD (ext n1 P) (ext (trimN (fun _ => d) 1) (fun _ => d)))) (trimN (addD (ext n1 P) (ext (trimN (fun _ => d) 1) (fun _ => d))) (max n1 (trimN (fun _ => d) 1) + 1)) (M * 10 + d) := by
  have hPl : ∀ i, P i < 4294967296 := by rw [hP]; exact fun i => mulP_lt h.lt (ext_lt2 (fun _ _ => by omega)) 1 n i
  have hPv : val P (n + 1) = M * 10 := by
    rw [hP, val_mulP, h.val]
    rfl
  have e1 : val P n1 = M * 10 := by rw [h1, val_trim, hPv]
  have e2 : val (fun _ => d) (trimN (fun _ => d) 1) = d := by rw [val_trim]; simp [val]
  generalize trimN (fun _ => d) 1 = m1 at *
  have hF := ext_lt2 (n := n1) (f := P) (fun i _ => hPl i)
  have hG := ext_lt2 (n := m1) (f := fun _ => d) (fun i _ => hd)
  apply norm_trim
  · intro i _; exact addD_lt _ _ _
  · have hv := val_add (ext n1 P) (ext m1 (fun _ => d)) (max n1 m1 + 1)
    rw [val_ext_le P (by omega), val_ext_le (fun _ => d) (by omega), e1, e2] at hv
    have hc : addC (ext n1 P) (ext m1 (fun _ => d)) (max n1 m1 + 1) = 0 := by
      have := addC_le hF hG (max n1 m1)
      unfold addC
      rw [show ext n1 P (max n1 m1) = 0 from by unfold ext; rw [if_neg (by omega)], show ext m1 (fun _ => d) (max n1 m1) = 0 from by unfold ext; rw [if_neg (by omega)]]
      omega
    rw [hc] at hv
    omega

theorem Lim.one (w : World) (x : Nat) (hx : x < 4294967296) : Lim (w.alloc (.cells #[.int .u32 x] 60)) (.slice (some ⟨w.heap.size, 0, none⟩) 1 1) 1 (fun _ => x) := by
  refine ⟨_, _, rfl, by omega, by unfold maxLen; omega, fun _ _ => hx, fun _ => ⟨_, _, rfl, fun i hi => ?_⟩⟩
  obtain rfl : i = 0 := by omega
  rw [cell_of_block (heap_alloc_new _ _)]
  rfl

theorem lim_T1 (w : World) (x : Int) (d : Nat) (hx : x = (d : Int)) (hd : d < 4294967296) : Lim (w.alloc (.cells #[.int .u32 x] 60)) (.slice (some ⟨w.heap.size, 0, none⟩) 1 1) 1 (fun _ => d) := by
  subst hx; exact Lim.one w d hd
theorem lim_T2 (w : World) (x : Int) (d : Nat) (o : Obj) (hx : x = (d : Int)) (hd : d < 4294967296) : Lim ((w.alloc (.cells #[.int .u32 x] 60)).alloc o) (.slice (some ⟨w.heap.size, 0, none⟩) 1 1) 1 (fun _ => d) :=
  (lim_T1 w x d hx hd).below (below_alloc1 _ _)
theorem lim_T3 (w : World) (x : Int) (d : Nat) (o : Obj) (hx : x = (d : Int)) (hd : d < 4294967296) : Lim ((w.alloc o).alloc (.cells #[.int .u32 x] 60)) (.slice (some ⟨w.heap.size + 1, 0, none⟩) 1 1) 1 (fun _ => d) := by
  have := lim_T1 (w.alloc o) x d hx hd
  rwa [World.size_alloc] at this
theorem nil_some (a : Addr) (n c : Nat) : NilOk (.slice (some a) n c) := fun _ _ h => by cases h

end Go.Proofs.Ytpcnmolncoaddaa
