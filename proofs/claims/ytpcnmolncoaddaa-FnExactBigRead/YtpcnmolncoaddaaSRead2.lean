import Derived.Test.YtpcnmolncoaddaaRead5
namespace Go.Proofs.Ytpcnmolncoaddaa
open Go.RowKit Go.Joins

set_option maxHeartbeats 4000000 in
set_option maxRecDepth 100000 in
theorem sRead_z (s : ByteArray) (w : World) (hs : s.size ≤ 1048576) (F : Nat → Nat) (N : Nat) (f1 : (s.toList == []) = false) (hp : 0 < s.size) (f2 : ((s[0].toNat : Int) == 45) = false) (f3 : ((s[0].toNat : Int) == 48) = true) (hz : s.size ≤ 1) (hN : Norm F N (dv (bt s) (s).size)) (hG : Dig s) :
    Calls Try.prog 40 #[.string s] w fun e w' => ∃ v', e = .returned (.agg #[.int .i64 (doneC N), .bool (doneM false N), v']) ∧ Own w.heap.size w' v' (doneN N) F ∧ Below w.heap.size w w' := by
  have HN := hideD hN
  have HG := hideD hG
  clear hN hG
  have r1 := Res3.start w (.int .i64 0) (.bool false) (.slice none 0 0) 28
  have bel := below_alloc1 w (.cells #[.int .i64 0, .bool false, .slice none 0 0] 28)
  go_enter Try.func40, Try.ntmps40
  go_wp2_with fail
  generalize w.alloc (.cells #[.int .i64 0, .bool false, .slice none 0 0] 28) = wa at *
  skip
  go_loop [5] (fun s5 => ∃ k : Nat, k ≤ s.size ∧ s5 = .int .i64 k) (fun s5 => s.size - (intOf s5).toNat)
  case atStart => exact ⟨0, Nat.zero_le _, rfl⟩
  case round =>
    obtain ⟨k, hk, rfl⟩ := hrel
    by_cases hlt : k < s.size
    · have hb := bt_in hlt
      have hd := HG.out k hlt
      rw [← hb] at hd
      obtain ⟨hd1, hd2⟩ := hd
      clear hb
      go_wp2_with fail
      go_round
      case rel => exact ⟨k + 1, by omega, by go_num⟩
      case measure => simp [intOf]; omega
    · obtain rfl : k = s.size := by omega
      clear hlt
      go_wp2_with fail
      have ho0 : Own (w.heap.size + 1) (wa.alloc (.cells #[] 60)) (.slice (some ⟨wa.heap.size, 0, none⟩) 0 0) 0 (fun _ => 0) := ((Row.empty wa (fun _ => 0)).own (fun i hi => by omega)).less (by have := r1.lt; omega)
      have r2 := r1.next (below_alloc1 wa (.cells #[] 60))
      have bel2 := bel.alloc bel.size (.cells #[] 60)
      clear r1 bel
      go_loopw [6, 7] (fun s6 s7 wr => ∃ (i n : Nat) (f : Nat → Nat) (a : Option Addr) (c : Nat), i ≤ s.size ∧ s7 = .int .i64 i ∧ s6 = .slice a n c ∧ n ≤ 40 ∧ Own (w.heap.size + 1) wr (.slice a n c) n f ∧ Hid (Norm (ext n f) n (dv (bt s) i)) ∧ Res3 wr w.heap.size (.int .i64 0) (.bool false) (.slice none 0 0) ∧ Below w.heap.size w wr) (fun _ s7 _ => s.size - (intOf s7).toNat)
      case atStart => exact ⟨0, 0, _, _, _, Nat.zero_le _, rfl, rfl, by omega, ho0, by rw [ext_zero]; exact Norm.nil, r2, bel2⟩
      case round =>
        obtain ⟨i, n, f, a, c, hi, rfl, rfl, hn, ho, hM, hr, hbel⟩ := hrel
        clear ho0 r2 bel2
        by_cases hlt : i < s.size
        · have hb := bt_in hlt
          have hd := HG.out i hlt
          have hx : Hid (s[i].toNat = bt s i) := hb
          rw [← hb] at hd
          obtain ⟨hd1, hd2⟩ := hd
          clear hb
          go_wp2_with fail
          have ten : ((10 : Nat) : Int) = 10 := rfl
          have hdg : Hid (IntKind.u32.wrap (IntKind.u8.wrap ((s[i].toNat : Int) - 48)) = ((bt s i - 48 : Nat) : Int)) := by unfold Hid; rw [IntKind.wrap_u8, IntKind.wrap_u32]; have := hx.out; omega
          have hd3 : bt s i - 48 < 10 := by have := hx.out; omega
          have hdg2 : Hid ((s[i].toNat : Int) - 48 = ((bt s i - 48 : Nat) : Int)) := by unfold Hid; have := hx.out; omega
          clear hx
          go_region_with (first
            | (go_at_call 82; refine (sMul_any _ _ n 1 f (fun _ => 10) _ ?_ ?_ ?_ ?_).mono ?_; (first | exact (ho.lim.below (below_alloc1 wr _)).drew | exact (ho.lim.below (below_alloc2 wr _ _)).drew); (first | exact (lim_T1 wr 10 10 rfl (by omega)).drew | exact (lim_T2 wr 10 10 _ rfl (by omega)).drew | exact (lim_T3 wr 10 10 _ rfl (by omega)).drew); omega; omega; rintro e w5 ⟨v5, rfl, ho5, hb5⟩; (have b5 : Below wr.heap.size wr w5 := by (first | exact (below_alloc1 wr _).drew.trans (hb5.mono (by simp)) | exact (below_alloc2 wr _ _).drew.trans (hb5.mono (by simp; omega)))); obtain ⟨P, hP⟩ : ∃ P, P = mulP (ext n f) (ext 1 (fun _ => 10)) 1 n := ⟨_, rfl⟩; rw [← hP] at ho5; have HPl : Hid (∀ i, P i < 4294967296) := (by unfold Hid; rw [hP]; exact fun i => mulP_lt (extLt ho.lim) (ext_lt2 (fun _ _ => by omega)) 1 n i); have HP := hideD hP; clear hP; obtain ⟨n1, hn1⟩ : ∃ n1, n1 = trimN P (n + 1) := ⟨_, rfl⟩; rw [← hn1] at ho5; have bn1 : n1 ≤ n + 1 := (by rw [hn1]; exact trimN_le _ _); have Hn1 := hideD hn1; clear hn1)
            | (go_at_call 77; refine (trim_any (n := 1) (f := fun _ => bt s i - 48) ?_ (nil_some _ _ _) (by omega)).mono ?_; (first | exact (lim_T1 _ _ _ hdg2.out (by omega)) | exact (lim_T1 _ _ _ hdg.out (by omega)) | exact ((lim_T3 wr _ _ _ hdg2.out (by omega)).drew.below hb5) | exact ((lim_T2 wr _ _ _ hdg2.out (by omega)).drew.below hb5) | exact ((lim_T3 wr _ _ _ hdg.out (by omega)).drew.below hb5) | exact ((lim_T2 wr _ _ _ hdg.out (by omega)).drew.below hb5)); rintro e w6 ⟨v6, rfl, ho6, hb6⟩; (have l5 : Lim w6 v5 n1 P := by (first | exact ((ho5.own (fun i _ => HPl.out i)).lim.below (below_alloc1 w5 _)).below hb6 | exact (ho5.own (fun i _ => HPl.out i)).lim.below hb6)); (have b6 : Below wr.heap.size wr w6 := by (first | exact (b5.alloc (by have := b5.size; omega) _).trans (hb6.mono (by have := b5.size; simp; omega)) | exact b5.trans (hb6.mono (by have := b5.size; omega)))); have l6 := (ho6.own (fun i _ => by omega)).lim; clear hb6 ho6 hb5 ho5 b5)
            | (go_at_call 81; refine (sAdd_any v5 v6 _ _ _ _ _ l5 l6 (by omega) (by have := trimN_le (fun _ => bt s i - 48) 1; omega)).mono ?_; rintro e w7 ⟨v7, rfl, ho7, hb7⟩; have o7 := (ho7.own (fun i _ => addD_lt _ _ _)).less (show w.heap.size + 1 ≤ _ by have := b6.size; have := hr.lt; omega); have nm := norm_step hM.out (show bt s i - 48 < 4294967296 by omega) n1 P HP.out Hn1.out; have b7 := b6.trans (hb7.mono (by have := b6.size; omega)); clear ho7 hb7 l5 l6 b6))
          all_goals
            generalize addD (ext n1 P) (ext (trimN (fun _ => bt s i - 48) 1) (fun _ => bt s i - 48)) = A at *
            generalize trimN A (max n1 (trimN (fun _ => bt s i - 48) 1) + 1) = n2 at *
            have hM7 : Hid (Norm (ext n2 A) n2 (dv (bt s) (i + 1))) := nm
            obtain ⟨a7, c7, rfl, -⟩ := id o7
            have hr7 := hr.next b7
            have bel7 := hbel.trans (b7.mono hbel.size)
            obtain ⟨c0, c1, c2, f0, f1, f2, lt⟩ := id hr7
            clear nm b7 hr hbel ho hM HP HPl Hn1 bn1
            by_cases h40 : 40 < n2
            · have hL : 40 < N := HN.out.large (Nat.le_trans (hM7.out.le h40) (dv_mono (by omega)))
              have e1 : Hid (doneC N = 2) := if_pos hL
              have e2 : Hid (doneM false N = false) := if_pos hL
              have e3 : Hid (doneN N = 0) := if_pos hL
              go_wp2_with fail
              refine bodyPost_ret (v := .agg #[.int .i64 2, .bool false, .slice none 0 0]) (by simp [results, Try.results40, go_sem, c0, c1, c2]) rfl ⟨.slice none 0 0, by rw [e1.out, e2.out], ?_, ?_⟩
              · rw [e3.out]; exact ⟨none, 0, rfl, Nat.le_refl _, ⟨by unfold maxLen; omega, fun _ => rfl⟩, fun i hi => by omega, fun h => by omega⟩
              · exact ((bel7.setCell (by show _ ≤ w.heap.size; omega) _).setCell (by show _ ≤ w.heap.size; omega) _).setCell (by show _ ≤ w.heap.size; omega) _
            · go_wp2_with fail
              go_roundw
              case rel => exact ⟨i + 1, n2, A, a7, c7, by omega, by go_num, rfl, by omega, o7, hM7, hr7, bel7⟩
              case measure => simp [intOf]; omega
        · obtain rfl : i = s.size := by omega
          obtain ⟨rfl, hFe⟩ := HN.out.unique hM.out
          have e1 : Hid (doneC N = 0) := if_neg (by omega)
          have e2 : Hid (doneM false N = (false && decide (0 < N))) := if_neg (by omega)
          have e3 : Hid (doneN N = N) := if_neg (by omega)
          have oF : Own (w.heap.size + 1) wr (.slice a N c) N F := ho.eq rfl (fun i hi => by rw [hFe, ext_of_lt _ hi])
          clear ho hM hFe HN hlt
          go_wp2_with fail
          refine (make_any false a N c _).mono ?_
          rintro e w5 ⟨rfl, hb5⟩
          have hr5 := hr.next hb5
          have bel5 := hbel.trans (hb5.mono hbel.size)
          have o5 := oF.below hb5
          clear hr hbel oF hb5
          obtain ⟨c0, c1, c2, f0, f1, f2, lt⟩ := id hr5
          go_wp2_with fail
          refine bodyPost_ret (v := .agg #[.int .i64 0, .bool (false && decide (0 < N)), .slice a N c]) (by simp [results, Try.results40, go_sem, c0, c1, c2]) rfl ⟨.slice a N c, by rw [e1.out, e2.out], ?_, ?_⟩
          · rw [e3.out]
            exact ((((o5.set _ _ (by show w.heap.size < _; omega)).set _ _ (by show w.heap.size < _; omega)).set _ _ (by show w.heap.size < _; omega)).less (by omega))
          · exact ((bel5.setCell (by show _ ≤ w.heap.size; omega) _).setCell (by show _ ≤ w.heap.size; omega) _).setCell (by show _ ≤ w.heap.size; omega) _
end Go.Proofs.Ytpcnmolncoaddaa
