import Derived.Test.YtcnokpaicnjkfaaCo
namespace Go.Proofs.Ytcnokpaicnjkfaa
open Go.RowKit Go.Joins

open Classical in
/-- The name of its own that a term tells. -/
noncomputable def own1 (k : Int) (nm : ByteArray) : List ByteArray := if ¬ nm = ⟨#[]⟩ ∧ (k = 1 ∨ k = 8) then [nm] else []

/-- All names of a row of terms, in their order. -/
noncomputable def Tm.all : Tm → List ByteArray
  | .nil => []
  | .nd h ks al r => h.cs ++ (own1 h.k h.nm ++ (h.ns ++ (ks.all ++ (al.all ++ r.all))))

theorem own1_len (k : Int) (nm : ByteArray) : (own1 k nm).length ≤ 1 := by
  unfold own1
  split
  · exact Nat.le_refl _
  · exact Nat.zero_le _

theorem rdS_le : ∀ F : Fo, (rdS F).length ≤ F.size
  | .nil => by simp [rdS]
  | .v x r => by
    have := rdS_le r
    cases x <;> simp only [rdS, Fo.size, List.length_cons, List.length_nil] <;> omega
  | .s _ _ _ _ _ => by simp [rdS]

theorem all_le : ∀ (m : Nat) (F : Fo), F.size ≤ m → (rdK F).all.length ≤ F.size ∧ (rdA F).all.length ≤ F.size := by
  intro m
  induction m with
  | zero =>
    intro F h
    cases F with
    | nil => rw [rdK_nil, rdA_nil]; exact ⟨Nat.le_refl _, Nat.le_refl _⟩
    | v _ _ => simp [Fo.size] at h
    | s _ _ _ _ _ => simp [Fo.size] at h
  | succ m ih =>
    intro F h
    constructor
    · unfold rdK
      split
      · rename_i k nm mn a1 n1 c1 lk a2 n2 c2 nk a3 n3 c3 kk a4 n4 c4 ak r
        simp only [Fo.size] at h
        have h1 := (ih kk (by omega)).1
        have h2 := (ih ak (by omega)).2
        have h3 := (ih r (by omega)).1
        have h4 := own1_len k nm
        have h5 := rdS_le nk
        simp only [Tm.all, Fo.size, List.length_append, List.length_nil]
        omega
      · exact Nat.zero_le _
    · unfold rdA
      split
      · rename_i con a0 n0 c0 ck kd k nm mn a1 n1 c1 lk a2 n2 c2 nk a3 n3 c3 kk a4 n4 c4 ak r
        simp only [Fo.size] at h
        have h1 := (ih kk (by omega)).1
        have h2 := (ih ak (by omega)).2
        have h3 := (ih r (by omega)).2
        have h4 := own1_len k nm
        have h5 := rdS_le nk
        have h6 := rdS_le ck
        simp only [Tm.all, Fo.size, List.length_append]
        omega
      · exact Nat.zero_le _

theorem allK_le (F : Fo) : (rdK F).all.length ≤ F.size := (all_le F.size F (Nat.le_refl _)).1

theorem allK_app {x : Fo} (hx : Fit E x (E 3)) (q : Fo) : (rdK (x.app q)).all = (rdK x).all ++ (rdK q).all := by
  obtain ⟨k, nm, mn, la, ln, lc, lk, na, nn, nc, nk, ka, kn, kc, kk, aa, an, ac, ak, rfl, -⟩ := core_open hx
  simp only [Fo.app]
  rw [rdK_nd, rdK_nd, rdK_nil]
  simp only [Tm.all, List.nil_append, List.append_nil, List.append_assoc]

theorem allA_app {x : Fo} (hx : Fit E x (E 2)) (q : Fo) : ∃ (con : ByteArray) (ca : Option Addr) (cn cc : Nat) (ck y : Fo), x = .v (.string con) (.s ca cn cc ck y) ∧ con.size ≤ maxLen ∧ Fit E ck (rep (E 1) cn) ∧ Fit E y (E 3) ∧ (rdA (x.app q)).all = rdS ck ++ ((rdK y).all ++ (rdA q).all) := by
  obtain ⟨con, ca, cn, cc, ck, y, rfl, h0, h1, hy⟩ := alt_open hx
  refine ⟨con, ca, cn, cc, ck, y, rfl, h0, h1, hy, ?_⟩
  obtain ⟨k, nm, mn, la, ln, lc, lk, na, nn, nc, nk, ka, kn, kc, kk, aa, an, ac, ak, rfl, -⟩ := core_open hy
  simp only [Fo.app]
  rw [rdA_nd, rdK_nd, rdK_nil]
  simp only [Tm.all, List.nil_append, List.append_nil, List.append_assoc]

/-- The model's walk, its contract for terms of at most m cells. -/
def AllC (nb m : Nat) : Prop := ∀ (F : Fo) (W : World) (v : Value) (L : List ByteArray), F.size ≤ m → Fit E F (E 3) → F.Subs W (fun c => c < nb) → nb ≤ W.heap.size → (∀ g, v.ownBlock = some g → nb ≤ g) → W.ownsRow 0 9 1 v L.length (L.map Value.string) → L.length + F.size ≤ 16777216 →
  Calls Try.prog 42 #[.agg F.vals.toArray, v] W (FrP v (adds L (rdK F).all) W)

end Go.Proofs.Ytcnokpaicnjkfaa
