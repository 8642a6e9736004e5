import Derived.Test.YtcmelghjoapglaaFG
import Derived.Test.YtcmelghjoapglaaFD
import Derived.Test.YtcmelghjoapglaaShelf
namespace Go.Proofs.Ytcmelghjoapglaa
open Go.RowKit Go.Shelf Go.Joins

theorem of_any (ob b o cap : Nat) (Ms : List Tb) (t : ByteArray) (w : World)
    (hob : ob < w.heap.size) (hcell : w.cell? ⟨ob, 0, none⟩ = some (.slice (some ⟨b, o, none⟩) Ms.length cap)) (hlen : Ms.length ≤ 1048576) (hb : b < w.heap.size)
    (hrow : ∀ i m, Ms[i]? = some m → w.cell? ⟨b, o + i, none⟩ = some (.map (some m.m))) (hms : ∀ m ∈ Ms, FM w m.m m.n m.L) (ht : t.size ≤ maxLen) :
    Calls Try.prog 13 #[.pointer (some ⟨ob, 0, none⟩), .string t] w fun e w' => e = .returned (fv (fxOf (told Ms.reverse) t)) ∧ Below w.heap.size w w' :=
  callsIn_wide.1 (of_in Fence.wide 3 trivial trivial trivial rfl (Nat.le_refl _) ob b o cap Ms t w hob hcell hlen hb hrow hms ht)

theorem fxOf_nm (L : List Fx) (t : ByteArray) : (fxOf L t).nm = t := by
  unfold fxOf
  cases h : fnd L t with
  | some x => exact (fnd_nm h).1
  | none =>
    simp only [Option.getD_none, dft]
    split <;> rfl

theorem clone_any (x : ByteArray) (w : World) (hx : x.size ≤ 1048576) : Calls Try.prog 14 #[.string x] w fun e w' => e = .returned (.string x) ∧ Below w.heap.size w w' := by
  have := Try.stringslite_Clone x w (by omega)
  go_enter Try.func14, Try.ntmps14
  go_wp2_with fail
  refine this.mono ?_
  rintro e w2 ⟨rfl, b2⟩
  go_wp2_with fail
  go_ret
  exact ⟨rfl, b2⟩

set_option maxHeartbeats 1000000 in
set_option maxRecDepth 100000 in
theorem iOf (L : List Fx) (t : ByteArray) (W : World) (a : Option Addr) (cap : Nat) (hl : ft L ≤ 1048576) (ht : t.size ≤ 1048576) (hs : FSl W W.heap.size a cap L) :
    Calls Try.prog 7 #[.slice a L.length cap, .string t] W fun e W' => e = .returned (fv (fxOf L t)) ∧ Below W.heap.size W W' := by
  have b0 := below_alloc1 W (.cells #[.string ⟨#[]⟩, .int .i64 0, .int .i64 0] 25)
  have q0 := Box3.new W (.string ⟨#[]⟩) (.int .i64 0) (.int .i64 0) 25
  have z0 : (W.alloc (.cells #[.string ⟨#[]⟩, .int .i64 0, .int .i64 0] 25)).heap.size = W.heap.size + 1 := by simp
  go_enter Try.func7, Try.ntmps7
  go_wp2_with fail
  generalize W.alloc (.cells #[.string ⟨#[]⟩, .int .i64 0, .int .i64 0] 25) = W0 at *
  refine (table_any L W0 a cap hl ((hs.below b0 (Nat.le_refl _)).mono (by omega))).mono ?_
  rintro e w1 ⟨rfl, m1, b1⟩
  have z1 := b1.size
  have hm1 := m1.lt
  go_wp2_with fail
  have ba := below_alloc2 w1 (.cells #[.map (some (W.heap.size + 1))] 36) (.cells #[.slice (some ⟨w1.heap.size, 0, none⟩) 1 1, .string ⟨#[]⟩] 40)
  have hca : ((w1.alloc (.cells #[.map (some (W.heap.size + 1))] 36)).alloc (.cells #[.slice (some ⟨w1.heap.size, 0, none⟩) 1 1, .string ⟨#[]⟩] 40)).cell? ⟨w1.heap.size, 0, none⟩ = some (.map (some (W.heap.size + 1))) := by
    have h1 : (w1.alloc (.cells #[.map (some (W.heap.size + 1))] 36)).cell? ⟨w1.heap.size, 0, none⟩ = some (.map (some (W.heap.size + 1))) := by simp
    exact ((below_alloc1 _ _).cell (p := ⟨w1.heap.size, 0, none⟩) (by simp)).trans h1
  have hcb : ((w1.alloc (.cells #[.map (some (W.heap.size + 1))] 36)).alloc (.cells #[.slice (some ⟨w1.heap.size, 0, none⟩) 1 1, .string ⟨#[]⟩] 40)).cell? ⟨w1.heap.size + 1, 0, none⟩ = some (.slice (some ⟨w1.heap.size, 0, none⟩) 1 1) := by
    have h1 : ∀ (A : World) (x y : Value) (ty : TypeId), (A.alloc (.cells #[x, y] ty)).cell? ⟨A.heap.size, 0, none⟩ = some x := fun A x y ty => by simp
    have := h1 (w1.alloc (.cells #[.map (some (W.heap.size + 1))] 36)) (.slice (some ⟨w1.heap.size, 0, none⟩) 1 1) (.string ⟨#[]⟩) 40
    rwa [World.size_alloc] at this
  have za : ((w1.alloc (.cells #[.map (some (W.heap.size + 1))] 36)).alloc (.cells #[.slice (some ⟨w1.heap.size, 0, none⟩) 1 1, .string ⟨#[]⟩] 40)).heap.size = w1.heap.size + 2 := by simp
  generalize (w1.alloc (.cells #[.map (some (W.heap.size + 1))] 36)).alloc (.cells #[.slice (some ⟨w1.heap.size, 0, none⟩) 1 1, .string ⟨#[]⟩] 40) = wa at *
  rw [z0] at m1
  have ma := m1.below ba m1.lt
  have q2 := ((q0.below b1 (by omega)).below ba (by omega))
  have B2 := (b0.trans (b1.mono (by omega))).trans (ba.mono (by omega))
  refine (of_any (w1.heap.size + 1) w1.heap.size 0 1 [⟨W.heap.size + 1, L.length, L⟩] t wa (by omega) hcb (by simp) (by omega) ?_ ?_ (by unfold maxLen; omega)).mono ?_
  · intro i m h
    rcases i with _ | i
    · simp at h; subst h; exact hca
    · simp at h
  · intro m h
    simp at h
    subst h
    exact ma
  have hto : told [(⟨W.heap.size + 1, L.length, L⟩ : Tb)].reverse = L := by simp [told]
  rw [hto]
  rintro e w2 ⟨rfl, b2⟩
  have z2 := b2.size
  obtain ⟨x, hx⟩ : ∃ x, fxOf L t = x := ⟨_, rfl⟩
  have hxn : x.nm = t := by rw [← hx]; exact fxOf_nm L t
  rw [hx]
  obtain ⟨xn, xs, xl⟩ := x
  simp only at hxn
  subst hxn
  unfold fv
  replace q2 := q2.below b2 (by omega)
  have B3 := B2.trans (b2.mono (by omega))
  clear hca hcb ma q0 m1 b2 ba B2
  go_wp2_with fail
  have q4 := Box3.new w2 (.string xn) (.int .i64 xs) (.int .i64 xl) 25
  have b4 := below_alloc1 w2 (.cells #[.string xn, .int .i64 xs, .int .i64 xl] 25)
  have z4 : (w2.alloc (.cells #[.string xn, .int .i64 xs, .int .i64 xl] 25)).heap.size = w2.heap.size + 1 := by simp
  generalize w2.alloc (.cells #[.string xn, .int .i64 xs, .int .i64 xl] 25) = w4 at *
  refine (clone_any xn w4 ht).mono ?_
  rintro e w5 ⟨rfl, b5⟩
  have z5 := b5.size
  have B5 := (B3.trans (b4.mono (by omega))).trans (b5.mono (by omega))
  have q5 := q4.below b5 (by omega)
  have p5 := (q2.below b4 (by omega)).below b5 (by omega)
  clear q4 q2 b4 b5
  obtain ⟨-, d0, d1, d2, e0, e1, e2⟩ := id q5
  obtain ⟨-, x0, x1, x2, y0, y1, y2⟩ := id p5
  have hne : ¬ W.heap.size = w2.heap.size := by omega
  have hne' : ¬ w2.heap.size = W.heap.size := by omega
  go_wp2_with fail
  refine bodyPost_ret (v := .agg #[.string xn, .int .i64 xs, .int .i64 xl]) (by simp [results, Try.results7, go_sem, x0, x1, x2]) rfl ⟨by rw [hx]; rfl, ?_⟩
  refine (((B5.setCell ?_ _).setCell ?_ _).setCell ?_ _).setCell ?_ _ <;> simp <;> omega

end Go.Proofs.Ytcmelghjoapglaa
