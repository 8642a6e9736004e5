import Derived.Test.YtanjgmmkodlffaaMc
namespace Go.Proofs.Ytanjgmmkodlffaa.U
open Go.RowKit Go.Joins

def sInt : ByteArray := ⟨#[73, 110, 116]⟩
def sBool : ByteArray := ⟨#[66, 111, 111, 108]⟩

/-- Pure types. -/
def tI : Fo := ty4 3 0 sInt none 0 0 .nil
def tC : Fo := ty4 3 0 sChar none 0 0 .nil
def tB : Fo := ty4 3 0 sBool none 0 0 .nil
def tG (i : Int) : Fo := ty4 2 i ⟨#[]⟩ none 0 0 .nil
def tL (X : Fo) : Fo := ty4 3 0 sList none 1 0 X
def tF (X Y : Fo) : Fo := ty4 3 0 sArrow none 2 0 (X.app Y)
def sch (k : Int) (X : Fo) : Fo := .v (.int .i64 k) (.s none 0 0 .nil X)

/-- What is told of a name. -/
def BT (s : ByteArray) (AN : Fo) : Prop :=
  (s = ⟨#[112, 114, 105, 109, 65, 100, 100]⟩ ∧ AN = sch 0 (tF tI (tF tI tI))) ∨
  (s = ⟨#[112, 114, 105, 109, 83, 117, 98]⟩ ∧ AN = sch 0 (tF tI (tF tI tI))) ∨
  (s = ⟨#[112, 114, 105, 109, 77, 117, 108]⟩ ∧ AN = sch 0 (tF tI (tF tI tI))) ∨
  (s = ⟨#[112, 114, 105, 109, 68, 105, 118]⟩ ∧ AN = sch 0 (tF tI (tF tI tI))) ∨
  (s = ⟨#[112, 114, 105, 109, 77, 111, 100]⟩ ∧ AN = sch 0 (tF tI (tF tI tI))) ∨
  (s = ⟨#[112, 114, 105, 109, 69, 113]⟩ ∧ AN = sch 0 (tF tI (tF tI tB))) ∨
  (s = ⟨#[112, 114, 105, 109, 76, 101, 115, 115]⟩ ∧ AN = sch 0 (tF tI (tF tI tB))) ∨
  (s = ⟨#[112, 114, 105, 109, 79, 114, 100]⟩ ∧ AN = sch 0 (tF tC tI)) ∨
  (s = ⟨#[112, 114, 105, 109, 67, 104, 114]⟩ ∧ AN = sch 0 (tF tI tC)) ∨
  (s = ⟨#[112, 114, 105, 109, 83, 104, 111, 119]⟩ ∧ AN = sch 0 (tF tI (tL tC))) ∨
  (s = ⟨#[112, 114, 105, 109, 65, 112, 112, 101, 110, 100]⟩ ∧ AN = sch 1 (tF (tL (tG 0)) (tF (tL (tG 0)) (tL (tG 0))))) ∨
  (s = ⟨#[112, 114, 105, 109, 83, 101, 113]⟩ ∧ AN = sch 2 (tF (tG 0) (tF (tG 1) (tG 1)))) ∨
  (s = ⟨#[112, 114, 105, 109, 69, 114, 114, 111, 114]⟩ ∧ AN = sch 1 (tF (tL tC) (tG 0))) ∨
  (s = ⟨#[110, 101, 103, 97, 116, 101]⟩ ∧ AN = sch 0 (tF tI tI)) ∨
  (((s.toList == [112, 114, 105, 109, 65, 100, 100]) = false ∧ (s.toList == [112, 114, 105, 109, 83, 117, 98]) = false ∧ (s.toList == [112, 114, 105, 109, 77, 117, 108]) = false ∧ (s.toList == [112, 114, 105, 109, 68, 105, 118]) = false ∧ (s.toList == [112, 114, 105, 109, 77, 111, 100]) = false ∧ (s.toList == [112, 114, 105, 109, 69, 113]) = false ∧ (s.toList == [112, 114, 105, 109, 76, 101, 115, 115]) = false ∧ (s.toList == [112, 114, 105, 109, 79, 114, 100]) = false ∧ (s.toList == [112, 114, 105, 109, 67, 104, 114]) = false ∧ (s.toList == [112, 114, 105, 109, 83, 104, 111, 119]) = false ∧ (s.toList == [112, 114, 105, 109, 65, 112, 112, 101, 110, 100]) = false ∧ (s.toList == [112, 114, 105, 109, 83, 101, 113]) = false ∧ (s.toList == [112, 114, 105, 109, 69, 114, 114, 111, 114]) = false ∧ (s.toList == [110, 101, 103, 97, 116, 101]) = false) ∧ AN = sch 0 (ty4 0 0 ⟨#[]⟩ none 0 0 .nil))

theorem list_ne2 {s t : ByteArray} {L : List UInt8} (h : s ≠ t) (e : t.toList = L) : (s.toList == L) = false := by
  have h2 := list_ne h
  rwa [e] at h2

theorem bt_ex (s : ByteArray) : ∃ AN, BT s AN := by
  by_cases h0 : s = ⟨#[112, 114, 105, 109, 65, 100, 100]⟩
  · exact ⟨sch 0 (tF tI (tF tI tI)), .inl ⟨h0, rfl⟩⟩
  by_cases h1 : s = ⟨#[112, 114, 105, 109, 83, 117, 98]⟩
  · exact ⟨sch 0 (tF tI (tF tI tI)), .inr (.inl ⟨h1, rfl⟩)⟩
  by_cases h2 : s = ⟨#[112, 114, 105, 109, 77, 117, 108]⟩
  · exact ⟨sch 0 (tF tI (tF tI tI)), .inr (.inr (.inl ⟨h2, rfl⟩))⟩
  by_cases h3 : s = ⟨#[112, 114, 105, 109, 68, 105, 118]⟩
  · exact ⟨sch 0 (tF tI (tF tI tI)), .inr (.inr (.inr (.inl ⟨h3, rfl⟩)))⟩
  by_cases h4 : s = ⟨#[112, 114, 105, 109, 77, 111, 100]⟩
  · exact ⟨sch 0 (tF tI (tF tI tI)), .inr (.inr (.inr (.inr (.inl ⟨h4, rfl⟩))))⟩
  by_cases h5 : s = ⟨#[112, 114, 105, 109, 69, 113]⟩
  · exact ⟨sch 0 (tF tI (tF tI tB)), .inr (.inr (.inr (.inr (.inr (.inl ⟨h5, rfl⟩)))))⟩
  by_cases h6 : s = ⟨#[112, 114, 105, 109, 76, 101, 115, 115]⟩
  · exact ⟨sch 0 (tF tI (tF tI tB)), .inr (.inr (.inr (.inr (.inr (.inr (.inl ⟨h6, rfl⟩))))))⟩
  by_cases h7 : s = ⟨#[112, 114, 105, 109, 79, 114, 100]⟩
  · exact ⟨sch 0 (tF tC tI), .inr (.inr (.inr (.inr (.inr (.inr (.inr (.inl ⟨h7, rfl⟩)))))))⟩
  by_cases h8 : s = ⟨#[112, 114, 105, 109, 67, 104, 114]⟩
  · exact ⟨sch 0 (tF tI tC), .inr (.inr (.inr (.inr (.inr (.inr (.inr (.inr (.inl ⟨h8, rfl⟩))))))))⟩
  by_cases h9 : s = ⟨#[112, 114, 105, 109, 83, 104, 111, 119]⟩
  · exact ⟨sch 0 (tF tI (tL tC)), .inr (.inr (.inr (.inr (.inr (.inr (.inr (.inr (.inr (.inl ⟨h9, rfl⟩)))))))))⟩
  by_cases h10 : s = ⟨#[112, 114, 105, 109, 65, 112, 112, 101, 110, 100]⟩
  · exact ⟨sch 1 (tF (tL (tG 0)) (tF (tL (tG 0)) (tL (tG 0)))), .inr (.inr (.inr (.inr (.inr (.inr (.inr (.inr (.inr (.inr (.inl ⟨h10, rfl⟩))))))))))⟩
  by_cases h11 : s = ⟨#[112, 114, 105, 109, 83, 101, 113]⟩
  · exact ⟨sch 2 (tF (tG 0) (tF (tG 1) (tG 1))), .inr (.inr (.inr (.inr (.inr (.inr (.inr (.inr (.inr (.inr (.inr (.inl ⟨h11, rfl⟩)))))))))))⟩
  by_cases h12 : s = ⟨#[112, 114, 105, 109, 69, 114, 114, 111, 114]⟩
  · exact ⟨sch 1 (tF (tL tC) (tG 0)), .inr (.inr (.inr (.inr (.inr (.inr (.inr (.inr (.inr (.inr (.inr (.inr (.inl ⟨h12, rfl⟩))))))))))))⟩
  by_cases h13 : s = ⟨#[110, 101, 103, 97, 116, 101]⟩
  · exact ⟨sch 0 (tF tI tI), .inr (.inr (.inr (.inr (.inr (.inr (.inr (.inr (.inr (.inr (.inr (.inr (.inr (.inl ⟨h13, rfl⟩)))))))))))))⟩
  exact ⟨sch 0 (ty4 0 0 ⟨#[]⟩ none 0 0 .nil), .inr (.inr (.inr (.inr (.inr (.inr (.inr (.inr (.inr (.inr (.inr (.inr (.inr (.inr (⟨⟨list_ne2 h0 (by simp [go_sem]), list_ne2 h1 (by simp [go_sem]), list_ne2 h2 (by simp [go_sem]), list_ne2 h3 (by simp [go_sem]), list_ne2 h4 (by simp [go_sem]), list_ne2 h5 (by simp [go_sem]), list_ne2 h6 (by simp [go_sem]), list_ne2 h7 (by simp [go_sem]), list_ne2 h8 (by simp [go_sem]), list_ne2 h9 (by simp [go_sem]), list_ne2 h10 (by simp [go_sem]), list_ne2 h11 (by simp [go_sem]), list_ne2 h12 (by simp [go_sem]), list_ne2 h13 (by simp [go_sem])⟩, rfl⟩))))))))))))))⟩

theorem bt_fit {s : ByteArray} {AN : Fo} (h : BT s AN) : Fit E AN [.i, .s 0, .i, .i, .t, .s 1] ∧ 1 + AN.sct ≤ 4294967296 := by
  unfold BT at h
  rcases h with ⟨-, rfl⟩ | ⟨-, rfl⟩ | ⟨-, rfl⟩ | ⟨-, rfl⟩ | ⟨-, rfl⟩ | ⟨-, rfl⟩ | ⟨-, rfl⟩ | ⟨-, rfl⟩ | ⟨-, rfl⟩ | ⟨-, rfl⟩ | ⟨-, rfl⟩ | ⟨-, rfl⟩ | ⟨-, rfl⟩ | ⟨-, rfl⟩ | ⟨-, rfl⟩
  all_goals
    refine ⟨?_, by decide⟩
    repeat' first | exact trivial | (apply And.intro) | decide

theorem sub0 {V V' : World} {S S' : Nat → Prop} {k ix : Int} {nm : ByteArray} {a : Option Addr} {c : Nat} (h : Fo.Subs V S (.s a 0 c .nil .nil)) : (ty4 k ix nm a 0 c .nil).Subs V' S' := ⟨⟨h.1.1, h.1.2.1, fun hl => by simp [Fo.len] at hl⟩, trivial⟩

theorem subN {V : World} {S : Nat → Prop} {k ix : Int} {nm : ByteArray} : (ty4 k ix nm none 0 0 .nil).Subs V S := ⟨⟨Nat.le_refl _, Nat.zero_le _, fun hl => by simp [Fo.len] at hl⟩, trivial⟩

theorem sub_up {z : Nat} {A B : World} {X : Fo} (h : X.Subs A (fun c => z ≤ c ∧ c < A.heap.size)) (k : Below A.heap.size A B) : X.Subs B (fun c => z ≤ c ∧ c < B.heap.size) := (h.below k (fun _ x => x.2)).mono (fun _ x => ⟨x.1, Nat.lt_of_lt_of_le x.2 k.size⟩)

theorem m_fun' (z : Nat) (kA ixA : Int) (nmA : ByteArray) (aA : Option Addr) (nA cA : Nat) (KA : Fo) (kB ixB : Int) (nmB : ByteArray) (aB : Option Addr) (nB cB : Nat) (KB : Fo) (V : World) (hz : z ≤ V.heap.size) (hsA : (ty4 kA ixA nmA aA nA cA KA).Subs V (fun c => z ≤ c ∧ c < V.heap.size)) (hsB : (ty4 kB ixB nmB aB nB cB KB).Subs V (fun c => z ≤ c ∧ c < V.heap.size)) :
    Calls Try.prog 23 #[.agg #[.int .i64 kA, .int .i64 ixA, .string nmA, .slice aA nA cA], .agg #[.int .i64 kB, .int .i64 ixB, .string nmB, .slice aB nB cB]] V fun e V' => ∃ v, e = .returned v ∧ (∃ a' c', v = .agg #[.int .i64 3, .int .i64 0, .string sArrow, .slice a' 2 c'] ∧ Below V.heap.size V V' ∧ (ty4 3 0 sArrow a' 2 c' ((ty4 kA ixA nmA aA nA cA KA).app (ty4 kB ixB nmB aB nB cB KB))).Subs V' (fun c => z ≤ c ∧ c < V'.heap.size)) :=
  (m_fun kA ixA nmA aA nA cA KA kB ixB nmB aB nB cB KB V (fun c => z ≤ c ∧ c < V.heap.size) (fun c h => h.2) hsA hsB).mono (fun e V' h => by
    obtain ⟨a', c', h1, h2, h3⟩ := h
    have := h2.size
    exact ⟨_, h1, a', c', rfl, h2, h3.mono (fun c hc => by rcases hc with h | h <;> exact ⟨by omega, by omega⟩)⟩)

theorem m_list' (z : Nat) (kA ixA : Int) (nmA : ByteArray) (aA : Option Addr) (nA cA : Nat) (KA : Fo) (V : World) (hz : z ≤ V.heap.size) (hsA : (ty4 kA ixA nmA aA nA cA KA).Subs V (fun c => z ≤ c ∧ c < V.heap.size)) :
    Calls Try.prog 24 #[.agg #[.int .i64 kA, .int .i64 ixA, .string nmA, .slice aA nA cA]] V fun e V' => ∃ v, e = .returned v ∧ (∃ a' c', v = .agg #[.int .i64 3, .int .i64 0, .string sList, .slice a' 1 c'] ∧ Below V.heap.size V V' ∧ (ty4 3 0 sList a' 1 c' (ty4 kA ixA nmA aA nA cA KA)).Subs V' (fun c => z ≤ c ∧ c < V'.heap.size)) :=
  (m_list kA ixA nmA aA nA cA KA V (fun c => z ≤ c ∧ c < V.heap.size) (fun c h => h.2) hsA).mono (fun e V' h => by
    obtain ⟨a', c', h1, h2, h3⟩ := h
    have := h2.size
    exact ⟨_, h1, a', c', rfl, h2, h3.mono (fun c hc => by rcases hc with h | h <;> exact ⟨by omega, by omega⟩)⟩)

theorem m_gen' (k : Int) (V : World) : Calls Try.prog 22 #[.int .i64 k] V fun e V' => ∃ v, e = .returned v ∧ (v = .agg #[.int .i64 2, .int .i64 k, .string ⟨#[]⟩, .slice none 0 0] ∧ Below V.heap.size V V') := (m_gen k V).mono (fun _ _ h => ⟨_, h.1, rfl, h.2⟩)

theorem m_base (nm : ByteArray) (V : World) : Calls Try.prog 21 #[.string nm, .slice none 0 0] V fun e V' => ∃ a c, e = .returned (.agg #[.int .i64 3, .int .i64 0, .string nm, .slice a 0 c]) ∧ Below V.heap.size V V' ∧ Fo.Subs V' (fun _ => True) (.s a 0 c .nil .nil) :=
  (m_l8con nm none 0 0 .nil V (fun _ => False) (fun _ h => h.elim) (by omega) rfl (fun u hu => by simp [Fo.vals] at hu) ⟨⟨Nat.le_refl _, Nat.zero_le _, fun h => by simp [Fo.len] at h⟩, trivial⟩).mono (fun e V' h => by
    obtain ⟨a, c, h1, h2, h3⟩ := h
    exact ⟨a, c, h1, h2, h3.mono (fun _ _ => trivial)⟩)

end Go.Proofs.Ytanjgmmkodlffaa.U
