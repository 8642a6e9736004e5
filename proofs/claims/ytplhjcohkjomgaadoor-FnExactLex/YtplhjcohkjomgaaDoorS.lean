import Derived.Test.YtplhjcohkjomgaaDoorO
import Derived.Test.YtplhjcohkjomgaaDoorP
import Derived.Test.YtplhjcohkjomgaaDoorQ
import Derived.Test.YtplhjcohkjomgaaDoorR
namespace Go.Proofs.YtplhjcohkjomgaaDoor
open Go.RowKit Go.Joins

theorem mToken (b : Nat) (s : ByteArray) (a : Nat) (x4 x5 x6 : Value) (ao : Option Addr) (cp n : Nat) (T : List To) (w : World) (h : Lx w b s a (pl s a) (pc s a) x4 x5 x6 (.slice ao n cp)) (hT : TR (b + 1) w ao cp n T)
    (hl : T.length ≤ 1048576) (hs : s.size ≤ 1048576) (ha : a < s.size) : Calls Tryd.prog 24 #[.pointer (some ⟨b, 0, none⟩)] w (TokPost s a b x4 x5 x6 n T w) := by
  rcases n1 : sml (bt s a) with _ | _
  · rcases n2 : cap (bt s a) with _ | _
    · rcases n3 : dig (bt s a) with _ | _
      · by_cases hq : bt s a = 39 ∨ bt s a = 34
        · exact mTokQuo b s a x4 x5 x6 ao cp n T w h hT hl hs ha n1 n2 n3 hq
        · have z1 : ((bt s a : Int) == 39) = false := by simp; omega
          have z2 : ((bt s a : Int) == 34) = false := by simp; omega
          rcases n4 : sym (bt s a) with _ | _
          · rcases n5 : spc (bt s a) with _ | _
            · exact mTokNone b s a x4 x5 x6 ao cp n T w h hT hl hs ha n1 n2 n3 z1 z2 n4 n5
            · exact mTokSpc b s a x4 x5 x6 ao cp n T w h hT hl hs ha n1 n2 n3 z1 z2 n4 n5
          · exact mTokSym b s a x4 x5 x6 ao cp n T w h hT hl hs ha n1 n2 n3 z1 z2 n4
      · exact mTokDig b s a x4 x5 x6 ao cp n T w h hT hl hs ha n1 n2 n3
    · exact mTokName b s a x4 x5 x6 ao cp n T w h hT hl hs ha (.inr n2)
  · exact mTokName b s a x4 x5 x6 ao cp n T w h hT hl hs ha (.inl n1)

theorem lexF_open {s : ByteArray} {i : Nat} (hi : i ≤ s.size) (h : (blank s i).2 = false) : lexF s i = ([], 2, (blank s i).1) := by
  rw [lexF, dif_neg (by omega), if_pos h]
theorem lexF_end {s : ByteArray} {i : Nat} (hi : i ≤ s.size) (h : (blank s i).2 = true) (h2 : s.size ≤ (blank s i).1) : lexF s i = ([], 0, (blank s i).1) := by
  rw [lexF, dif_neg (by omega), if_neg (by rw [h]; decide), dif_pos h2]
theorem lexF_bad {s : ByteArray} {i c : Nat} (hi : i ≤ s.size) (h : (blank s i).2 = true) (h2 : (blank s i).1 < s.size) (ht : tok s (blank s i).1 = .bad c) : lexF s i = ([], c, (blank s i).1) := by
  rw [lexF, dif_neg (by omega), if_neg (by rw [h]; decide), dif_neg (by omega)]
  split
  · rename_i e; rw [ht] at e; cases e; rfl
  · rename_i e; rw [ht] at e; cases e
theorem lexF_ok {s : ByteArray} {i k n : Nat} {t : ByteArray} (hi : i ≤ s.size) (h : (blank s i).2 = true) (h2 : (blank s i).1 < s.size) (ht : tok s (blank s i).1 = .ok k t n) :
    lexF s i = (⟨k, t, pl s (blank s i).1, pc s (blank s i).1⟩ :: (lexF s ((blank s i).1 + n)).1, (lexF s ((blank s i).1 + n)).2) := by
  rw [lexF, dif_neg (by omega), if_neg (by rw [h]; decide), dif_neg (by omega)]
  split
  · rename_i e; rw [ht] at e; cases e
  · rename_i e; rw [ht] at e; cases e; rfl

theorem tok_code {s : ByteArray} {a c : Nat} (h : tok s a = .bad c) : c ≠ 0 := by
  unfold tok at h
  intro hc
  subst hc
  split at h
  · cases h
  · split at h
    · split at h <;> cases h
    · split at h
      · split at h
        · cases h
        · split at h <;> cases h
      · split at h
        · cases h
        · split at h <;> cases h

/-- The answer for a text: code, line, column, tokens. -/
def lexA (s : ByteArray) : Nat × Nat × Nat × List To :=
  if 60000 < s.size then (5, 1, 1, [])
  else if (lexF s 0).2.1 = 0 then (0, 0, 0, (lexF s 0).1)
  else ((lexF s 0).2.1, pl s (lexF s 0).2.2, pc s (lexF s 0).2.2, [])

/-- What is answered: in memory of its own. -/
def LexPost (s : ByteArray) (w : World) (e : Ending) (w' : World) : Prop :=
  ∃ (ao : Option Addr) (cp n : Nat), e = .returned (.agg #[.int .i64 (lexA s).1, .int .i64 (lexA s).2.1, .int .i64 (lexA s).2.2.1, .slice ao n cp]) ∧ TR w.heap.size w' ao cp n (lexA s).2.2.2 ∧ Below w.heap.size w w'

theorem TR.less {B B' : Nat} {W : World} {ao : Option Addr} {cap n : Nat} {T : List To} (h : TR B W ao cap n T) (hB : B' ≤ B) : TR B' W ao cap n T := by
  refine ⟨h.1, h.2.1, ?_⟩
  rcases h.2.2 with h' | ⟨g, cap', cur, e, hb, r⟩
  · exact .inl h'
  · exact .inr ⟨g, cap', cur, e, by omega, r⟩

/-- What stands in the lexer at its end. -/
def LexEnd (s : ByteArray) (b : Nat) (w wx : World) : Prop :=
  ∃ (i : Nat) (ln cl : Int) (ao : Option Addr) (cp n : Nat), Lx wx b s i ln cl (.int .i64 (lexA s).1) (.int .i64 (lexA s).2.1) (.int .i64 (lexA s).2.2.1) (.slice ao n cp) ∧ TR (b + 1) wx ao cp n (lexA s).2.2.2 ∧ Below b w wx

set_option maxHeartbeats 4000000 in
set_option maxRecDepth 100000 in
theorem mLex (s : ByteArray) (w : World) (hs : s.size ≤ 1048576) : Calls Tryd.prog 7 #[.string s] w (LexPost s w) := by
  by_cases hbig : 60000 < s.size
  · have hbig' : (60000 : Int) < s.size := by omega
    have HA : Hid (lexA s = (5, 1, 1, [])) := by unfold Hid lexA; rw [if_pos hbig]
    clear hbig
    go_enter Tryd.func7, Tryd.ntmps7
    go_wp2_with fail
    refine bodyPost_ret (v := .agg #[.int .i64 5, .int .i64 1, .int .i64 1, .slice none 0 0]) (by simp [results, Tryd.results7, go_sem]) rfl ?_
    refine ⟨none, 0, 0, by rw [HA.out]; rfl, by rw [HA.out]; exact TR.start _ _, ?_⟩
    first
    | exact below_alloc1 w _
    | (refine ((((below_alloc1 w _).setCell ?_ _).setCell ?_ _).setCell ?_ _).setCell ?_ _ <;> simp)
  · have hbig' : ¬ (60000 : Int) < s.size := by omega
    have HA : Hid (lexA s = if (lexF s 0).2.1 = 0 then (0, 0, 0, (lexF s 0).1) else ((lexF s 0).2.1, pl s (lexF s 0).2.2, pc s (lexF s 0).2.2, [])) := by unfold Hid lexA; rw [if_neg hbig]
    clear hbig
    go_enter Tryd.func7, Tryd.ntmps7
    go_wp2_with fail
    go_loopw [] (fun wr => ∃ (i : Nat) (ao : Option Addr) (cp n : Nat) (T : List To), Lx wr (w.heap.size + 1) s i (pl s i) (pc s i) (.int .i64 0) (.int .i64 0) (.int .i64 0) (.slice ao n cp) ∧ TR (w.heap.size + 1 + 1) wr ao cp n T ∧ i ≤ s.size ∧ T.length ≤ i ∧ Hid (lexF s 0 = (T ++ (lexF s i).1, (lexF s i).2)) ∧ Below (w.heap.size + 1) (w.alloc (.cells #[.int .i64 0, .int .i64 0, .int .i64 0, .slice none 0 0] 24)) wr) (fun wr => s.size - (match wr.cell? ⟨w.heap.size + 1, 1, none⟩ with | some v => (intOf v).toNat | none => 0))
    case atStart =>
      refine ⟨0, none, 0, 0, [], ⟨by simp, by simp, by simp [pl], by simp [pc], by simp, by simp, by simp, by simp, fun o => by simp, by simp⟩, TR.start _ _, Nat.zero_le _, by simp, by unfold Hid; simp, ?_⟩
      have := below_alloc1 (w.alloc (.cells #[.int .i64 0, .int .i64 0, .int .i64 0, .slice none 0 0] 24)) (.cells #[.string s, .int .i64 0, .int .i64 1, .int .i64 1, .int .i64 0, .int .i64 0, .int .i64 0, .slice none 0 0] 45)
      simpa using this
    case round =>
      obtain ⟨i, ao, cp, n, T, hL, hT, hi, hTl, hF, hB⟩ := hrel
      have fin : ∀ wx (j : Nat) (ln cl : Int) (code line col : Int) (ax : Option Addr) (nx cx : Nat), Lx wx (w.heap.size + 1) s j ln cl (.int .i64 code) (.int .i64 line) (.int .i64 col) (.slice ax nx cx) → Below (w.heap.size + 1) (w.alloc (.cells #[.int .i64 0, .int .i64 0, .int .i64 0, .slice none 0 0] 24)) wx →
          (wx.cell? ⟨w.heap.size, 0, none⟩ = some (.int .i64 0) ∧ wx.cell? ⟨w.heap.size, 1, none⟩ = some (.int .i64 0) ∧ wx.cell? ⟨w.heap.size, 2, none⟩ = some (.int .i64 0) ∧ wx.cell? ⟨w.heap.size, 3, none⟩ = some (.slice none 0 0)) ∧
          (wx.frozen? ⟨w.heap.size, 0, none⟩ = false ∧ wx.frozen? ⟨w.heap.size, 1, none⟩ = false ∧ wx.frozen? ⟨w.heap.size, 2, none⟩ = false ∧ wx.frozen? ⟨w.heap.size, 3, none⟩ = false) := fun wx j ln cl code line col ax nx cx _ hb =>
        ⟨⟨(hb.cell (p := ⟨w.heap.size, 0, none⟩) (Nat.lt_succ_self _)).trans (by simp), (hb.cell (p := ⟨w.heap.size, 1, none⟩) (Nat.lt_succ_self _)).trans (by simp), (hb.cell (p := ⟨w.heap.size, 2, none⟩) (Nat.lt_succ_self _)).trans (by simp), (hb.cell (p := ⟨w.heap.size, 3, none⟩) (Nat.lt_succ_self _)).trans (by simp)⟩,
          ⟨(hb.frozen (p := ⟨w.heap.size, 0, none⟩) (Nat.lt_succ_self _)).trans (by simp), (hb.frozen (p := ⟨w.heap.size, 1, none⟩) (Nat.lt_succ_self _)).trans (by simp), (hb.frozen (p := ⟨w.heap.size, 2, none⟩) (Nat.lt_succ_self _)).trans (by simp), (hb.frozen (p := ⟨w.heap.size, 3, none⟩) (Nat.lt_succ_self _)).trans (by simp)⟩⟩
      have FIN := hide fin
      clear fin
      have hBl := mBlank (w.heap.size + 1) s i _ _ _ _ wr hL hs hi
      have hbg := blank_ge s i hi
      go_wp2_with fail
      refine hBl.mono ?_
      rintro e w2 ⟨rfl, g1, g2, g3, o2⟩
      have B2 := hB.trans (o2.below (Nat.le_refl _))
      have hT2 := hT.only o2 (Nat.lt_succ_self _)
      have HC1 := hide hL.c1
      clear hBl hL hT
      rcases q1 : (blank s i).2 with _ | _
      · have hL2 := g3 q1
        have hA : Hid (lexA s = (2, pl s (blank s i).1, pc s (blank s i).1, [])) := by
          have := hF.out
          rw [lexF_open hi q1] at this
          unfold Hid
          rw [HA.out, this, if_neg (by simp)]
        generalize (blank s i).1 = p at *
        obtain ⟨⟨d0, d1, d2, d3⟩, f0, f1, f2, f3⟩ := FIN.out w2 p _ _ _ _ _ _ _ _ hL2 B2
        obtain ⟨c0, c1, c2, c3, c4, c5, c6, c7, fr, lt⟩ := id hL2
        clear g2 g3 HA hF
        go_wp2_with fail
        refine bodyPost_ret (v := .agg #[.int .i64 2, .int .i64 (pl s p), .int .i64 (pc s p), .slice none 0 0]) (by simp [results, Tryd.results7, go_sem, d0, d1, d2, d3]) rfl ?_
        refine ⟨none, 0, 0, by rw [hA.out]; rfl, by rw [hA.out]; exact TR.start _ _, ?_⟩
        have B0 := (below_alloc1 w (.cells #[.int .i64 0, .int .i64 0, .int .i64 0, .slice none 0 0] 24)).trans (B2.mono (Nat.le_succ _))
        refine (((B0.setCell ?_ _).setCell ?_ _).setCell ?_ _).setCell ?_ _ <;> simp
      · have hL2 := g2 q1
        by_cases hp : s.size ≤ (blank s i).1
        · have hA : Hid (lexA s = (0, 0, 0, T)) := by
            have := hF.out
            rw [lexF_end hi q1 hp] at this
            unfold Hid
            rw [HA.out, this, if_pos rfl]
            simp
          generalize (blank s i).1 = p at *
          obtain ⟨⟨d0, d1, d2, d3⟩, f0, f1, f2, f3⟩ := FIN.out w2 p _ _ _ _ _ _ _ _ hL2 B2
          obtain ⟨c0, c1, c2, c3, c4, c5, c6, c7, fr, lt⟩ := id hL2
          have hp' : decide (p < s.size) = false := by simp; omega
          clear g2 g3 HA hF hp
          go_wp2_with fail
          refine bodyPost_ret (v := .agg #[.int .i64 0, .int .i64 0, .int .i64 0, .slice ao n cp]) (by simp [results, Tryd.results7, go_sem, d0, d1, d2, d3]) rfl ?_
          have B0 := (below_alloc1 w (.cells #[.int .i64 0, .int .i64 0, .int .i64 0, .slice none 0 0] 24)).trans (B2.mono (Nat.le_succ _))
          refine ⟨ao, cp, n, by rw [hA.out]; rfl, ?_, ?_⟩
          · rw [hA.out]
            refine TR.less (((TR.only (TR.only (TR.only (TR.only hT2 (Only.setCell _ ⟨w.heap.size, _, none⟩ _) ?_) (Only.setCell _ ⟨w.heap.size, _, none⟩ _) ?_) (Only.setCell _ ⟨w.heap.size, _, none⟩ _) ?_) (Only.setCell _ ⟨w.heap.size, _, none⟩ _) ?_))) ?_ <;> (first | omega | (simp; done) | (simp; omega))
          · refine (((B0.setCell ?_ _).setCell ?_ _).setCell ?_ _).setCell ?_ _ <;> simp
        · have hTk := mToken (w.heap.size + 1) s (blank s i).1 _ _ _ ao cp n T w2 hL2 hT2 (by omega) hs (by omega)
          unfold TokPost at hTk
          have hlt : (blank s i).1 < s.size := by omega
          have hc1 := hL2.c1
          rcases qt : tok s (blank s i).1 with ⟨k, t, m⟩ | c
          · rw [qt] at hTk
            have hm := tok_len hlt qt
            have hF2 : Hid (lexF s 0 = ((T ++ [⟨k, t, pl s (blank s i).1, pc s (blank s i).1⟩]) ++ (lexF s ((blank s i).1 + m)).1, (lexF s ((blank s i).1 + m)).2)) := by
              have := hF.out
              rw [lexF_ok hi q1 hlt qt] at this
              unfold Hid
              rw [this]
              simp
            generalize (blank s i).1 = p at *
            have HTk := hide hTk
            clear hTk
            go_wp2_with fail
            refine HTk.out.mono ?_
            rintro e w3 ⟨rfl, ⟨ao3, cp3, hL3, hT3⟩, b3⟩
            go_wp2_with fail
            go_roundw
            case rel => exact ⟨p + m, ao3, cp3, n + 1, _, hL3, hT3, by omega, by simp; omega, hF2, B2.trans b3⟩
            case measure =>
              have CO := HC1.out
              simp [hL3.c1, CO, intOf]
              rw [show ((p : Int) + (m : Int)).toNat = p + m by omega]
              omega
          · rw [qt] at hTk
            have hcn := tok_code qt
            have hA : Hid (lexA s = (c, pl s (blank s i).1, pc s (blank s i).1, [])) := by
              have := hF.out
              rw [lexF_bad hi q1 hlt qt] at this
              unfold Hid
              rw [HA.out, this, if_neg hcn]
            generalize (blank s i).1 = p at *
            have HTk := hide hTk
            clear hTk g2 g3 HA hF hp
            go_wp2_with fail
            refine HTk.out.mono ?_
            rintro e w3 ⟨rfl, hL3, b3⟩
            have B3 := B2.trans b3
            obtain ⟨⟨d0, d1, d2, d3⟩, f0, f1, f2, f3⟩ := FIN.out w3 p _ _ _ _ _ _ _ _ hL3 B3
            obtain ⟨c0, c1, c2, c3, c4, c5, c6, c7, fr, lt⟩ := id hL3
            go_wp2_with fail
            refine bodyPost_ret (v := .agg #[.int .i64 c, .int .i64 (pl s p), .int .i64 (pc s p), .slice none 0 0]) (by simp [results, Tryd.results7, go_sem, d0, d1, d2, d3]) rfl ?_
            refine ⟨none, 0, 0, by rw [hA.out], by rw [hA.out]; exact TR.start _ _, ?_⟩
            have B0 := (below_alloc1 w (.cells #[.int .i64 0, .int .i64 0, .int .i64 0, .slice none 0 0] 24)).trans (B3.mono (Nat.le_succ _))
            refine (((B0.setCell ?_ _).setCell ?_ _).setCell ?_ _).setCell ?_ _ <;> simp

end Go.Proofs.YtplhjcohkjomgaaDoor
