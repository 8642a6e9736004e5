import Derived.Test.YtmccdomgechkkaaFj
import Derived.Test.YtmccdomgechkkaaUx
namespace Go.Proofs.Ytmccdomgechkkaa
open Go.RowKit Go.Joins

open Classical in
/-- How many signs more. -/
noncomputable def frK (A : List ByteArray) (x : ByteArray) : Nat := if h : ∃ k, FrK A x k then Classical.choose h else 0

theorem frK_eq {A : List ByteArray} {x : ByteArray} {k : Nat} (h : FrK A x k) : k = frK A x := by
  have hx : ∃ k, FrK A x k := ⟨k, h⟩
  have e : frK A x = Classical.choose hx := by simp only [frK, dif_pos hx]
  rw [e]
  exact h.one (Classical.choose_spec hx)

/-- The texts of a slice. -/
def rowS : Fo → List ByteArray
  | .s _ _ _ K _ => strs K
  | _ => []

/-- The answer. -/
noncomputable def frU (x : ByteArray) (F : Fo) : ByteArray := pr x (frK (rowS F) x)

theorem strs_sim : ∀ (A B : Fo), A.sim B → strs A = strs B
  | .nil, .nil, _ => rfl
  | .v x r, .v y q, h => by
    obtain ⟨rfl, h2⟩ := h
    have e := strs_sim r q h2
    cases x <;> simp only [strs, e]
  | .s _ _ _ _ _, .s _ _ _ _ _, _ => rfl
  | .nil, .v _ _, h => h.elim
  | .nil, .s _ _ _ _ _, h => h.elim
  | .v _ _, .nil, h => h.elim
  | .v _ _, .s _ _ _ _ _, h => h.elim
  | .s _ _ _ _ _, .nil, h => h.elim
  | .s _ _ _ _ _, .v _ _, h => h.elim

theorem frU_sim (x : ByteArray) {F G : Fo} (hf : Fit E F [.s 0]) (h : G.sim F) : frU x G = frU x F := by
  obtain ⟨a, n, c, K, r, rfl, -, hr⟩ := fit_s hf
  obtain rfl := fit_nil hr
  obtain ⟨d, e, T, u, rfl, h1, h2⟩ := Fo.sim_s h
  simp only [frU, rowS, strs_sim T K h1]

theorem strs_wt : ∀ (n : Nat) (F : Fo), Fit E F (rep (E 0) n) → ∀ t ∈ strs F, t.size ≤ F.wt
  | 0, F, h, t, ht => by
    have e := fit_nil h
    subst e
    simp [strs] at ht
  | n + 1, F, h, t, ht => by
    replace h : Fit E F ([.t] ++ rep (E 0) n) := h
    obtain ⟨x, r, rfl, -, h⟩ := fit_t h
    simp only [strs, List.mem_cons] at ht
    simp only [Fo.wt, textSize]
    rcases ht with e | e
    · rw [e]; omega
    · have := strs_wt n r h t e
      omega

theorem row_of {W : World} {S : Nat → Prop} {G : Fo} {d : Option Addr} {n e : Nat} (hv : G.vals = [.slice d n e]) (hf : Fit E G [.s 0]) (hw : G.wt ≤ 1048576) (hs : G.Subs W S) : SR W S d e (rowS G) ∧ (rowS G).length = n ∧ n ≤ 1048576 ∧ ∀ t ∈ rowS G, t.size ≤ 1048576 := by
  obtain ⟨a, m, c, K, r, rfl, hK, hr⟩ := fit_s hf
  obtain rfl := fit_nil hr
  simp only [Fo.vals, List.cons.injEq, Value.slice.injEq, and_true] at hv
  obtain ⟨rfl, rfl, rfl⟩ := hv
  obtain ⟨h1, h2⟩ := sr_of hK hs.1
  simp only [Fo.wt] at hw
  exact ⟨h1, h2, by omega, fun t ht => by have := strs_wt _ K hK t ht; omega⟩

theorem m_FR (x : ByteArray) (G : Fo) (W : World) (d : Option Addr) (n e : Nat) (hv : G.vals = [.slice d n e]) (hf : Fit E G [.s 0]) (hx : x.size ≤ 1048576) (hw : G.wt ≤ 1048576) (hs : G.Subs W (fun c => c < W.heap.size)) :
    Calls Try.prog 5 #[.string x, .slice d n e] W fun r W' => r = .returned (.string (frU x G)) ∧ Below W.heap.size W W' := by
  obtain ⟨h1, h2, h3, -⟩ := row_of hv hf hw hs
  subst h2
  refine (m_fresh d e (rowS G) x W h1 hx h3).mono ?_
  rintro r W' ⟨k, hk, rfl, b⟩
  exact ⟨by rw [frU, ← frK_eq hk], b⟩

theorem i_FR (x : ByteArray) (G : Fo) (W : World) (d : Option Addr) (n e : Nat) (hv : G.vals = [.slice d n e]) (hf : Fit E G [.s 0]) (hx : x.size ≤ 1048576) (hw : G.wt ≤ 1048576) (hs : G.Subs W (fun c => c < W.heap.size)) :
    Calls Try.prog 7 #[.string x, .slice d n e] W fun r W' => r = .returned (.string (frU x G)) ∧ Below W.heap.size W W' := by
  obtain ⟨h1, h2, h3, h4⟩ := row_of hv hf hw hs
  subst h2
  refine (i_Fresh d e (rowS G) x W h1 h4 hx h3).mono ?_
  rintro r W' ⟨k, hk, rfl, b⟩
  exact ⟨by rw [frU, ← frK_eq hk], b⟩

end Go.Proofs.Ytmccdomgechkkaa
