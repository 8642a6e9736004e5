import Derived.Test.YtplhjcohkjomgaaDoorAK
namespace Go.Proofs.YtplhjcohkjomgaaDoor
open Go.RowKit Go.Joins

theorem TabB.up {B : Nat} {w w1 : World} (h : TabB B w) (hb : Below B w w1) (hB : B ≤ w1.heap.size) : TabB w1.heap.size w1 := fun w' k => h w' (hb.trans (k.mono hB))

def PostA (q1 q2 q3 : Nat) (T : List To) (w : World) (e : Ending) (w' : World) : Prop :=
  ∃ (ao : Option Addr) (cp n : Nat), e = .returned (.agg #[.int .i64 q1, .int .i64 q2, .int .i64 q3, .slice ao n cp]) ∧ TR w.heap.size w' ao cp n T ∧ Below w.heap.size w w'

set_option maxHeartbeats 1000000 in
set_option maxRecDepth 100000 in
theorem iLexG (q1 q2 q3 : Nat) (T : List To) (s : ByteArray) (w : World) (ht : TabB w.heap.size w) (HL : Hid (∀ mb w1, KM w1 mb → mb < w1.heap.size → Calls Tryd.prog 25 #[.map (some mb), .string s] w1 (PostA q1 q2 q3 T w1))) : Calls Tryd.prog 8 #[.string s] w (PostA q1 q2 q3 T w) := by
  have b0 := below_alloc1 w (.cells #[.int .i64 0, .int .i64 0, .int .i64 0, .slice none 0 0] 24)
  have h0 := iKept (w.alloc (.cells #[.int .i64 0, .int .i64 0, .int .i64 0, .slice none 0 0] 24)) (ht.up b0 (by simp))
  have H0 := hide h0
  clear h0 ht
  go_enter Tryd.func8, Tryd.ntmps8
  go_wp2_with fail
  refine H0.out.mono ?_
  rintro e w1 ⟨rfl, hK, hlt, b1⟩
  have b1' : Below w.heap.size w w1 := b0.trans (b1.mono (by simp))
  have b1'' : Below (w.heap.size + 1) (w.alloc (.cells #[.int .i64 0, .int .i64 0, .int .i64 0, .slice none 0 0] 24)) w1 := b1.mono (by simp)
  have hz : w.heap.size + 1 < w1.heap.size := by simpa using hlt
  have hsz : (w.alloc (.cells #[.int .i64 0, .int .i64 0, .int .i64 0, .slice none 0 0] 24)).heap.size = w.heap.size + 1 := by simp
  have H1 := hide (HL.out (w.heap.size + 1) w1 (hsz ▸ hK) hz)
  clear hsz hlt
  go_wp2_with fail
  refine H1.out.mono ?_
  rintro e w2 ⟨ao, cp, n, rfl, hT, b2⟩
  have hb : Below (w.heap.size + 1) (w.alloc (.cells #[.int .i64 0, .int .i64 0, .int .i64 0, .slice none 0 0] 24)) w2 := b1''.trans (b2.mono (by omega))
  have e0 := (hb.cell (p := ⟨w.heap.size, 0, none⟩) (Nat.lt_succ_self _)).trans (show _ = some (.int .i64 0) by simp)
  have e1 := (hb.cell (p := ⟨w.heap.size, 1, none⟩) (Nat.lt_succ_self _)).trans (show _ = some (.int .i64 0) by simp)
  have e2 := (hb.cell (p := ⟨w.heap.size, 2, none⟩) (Nat.lt_succ_self _)).trans (show _ = some (.int .i64 0) by simp)
  have e3 := (hb.cell (p := ⟨w.heap.size, 3, none⟩) (Nat.lt_succ_self _)).trans (show _ = some (.slice none 0 0) by simp)
  have f0 := (hb.frozen (p := ⟨w.heap.size, 0, none⟩) (Nat.lt_succ_self _)).trans (show _ = false by simp)
  have f1 := (hb.frozen (p := ⟨w.heap.size, 1, none⟩) (Nat.lt_succ_self _)).trans (show _ = false by simp)
  have f2 := (hb.frozen (p := ⟨w.heap.size, 2, none⟩) (Nat.lt_succ_self _)).trans (show _ = false by simp)
  have f3 := (hb.frozen (p := ⟨w.heap.size, 3, none⟩) (Nat.lt_succ_self _)).trans (show _ = false by simp)
  have b2' : Below w.heap.size w w2 := b1'.trans (b2.mono (by omega))
  have HT := hide hT
  clear hT hK
  go_wp2_with fail
  refine bodyPost_ret (v := .agg #[.int .i64 q1, .int .i64 q2, .int .i64 q3, .slice ao n cp]) (by simp [results, Tryd.results8, go_sem, e0, e1, e2, e3]) rfl ?_
  refine ⟨ao, cp, n, rfl, ?_, ?_⟩
  · refine TR.less (((TR.only (TR.only (TR.only (TR.only HT.out (Only.setCell _ ⟨w.heap.size, _, none⟩ _) ?_) (Only.setCell _ ⟨w.heap.size, _, none⟩ _) ?_) (Only.setCell _ ⟨w.heap.size, _, none⟩ _) ?_) (Only.setCell _ ⟨w.heap.size, _, none⟩ _) ?_))) ?_ <;> (first | omega | (simp; done) | (simp; omega))
  · refine (((b2'.setCell ?_ _).setCell ?_ _).setCell ?_ _).setCell ?_ _ <;> simp

theorem iLex (s : ByteArray) (w : World) (hs : s.size ≤ 1048576) (ht : TabB w.heap.size w) : Calls Tryd.prog 8 #[.string s] w (LexPost s w) :=
  iLexG _ _ _ _ s w ht (fun mb w1 hK hlt => iLexWith mb s w1 hK hlt hs)

end Go.Proofs.YtplhjcohkjomgaaDoor
