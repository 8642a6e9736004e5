import Derived.Test.YtcnbnhoeobdbnaaCz
import Derived.Maps.OwnSet
namespace Go.Proofs.Ytcnbnhoeobdbnaa
open Go.RowKit Go.Joins

theorem run_makeMap136 (w : World) : (Instr.makeMap 136 none).run Try.prog w = .ok (.map (some w.heap.size)) (w.alloc (.map #[] 0)) := run_makeMap ..

/-- What the loop of predsAt knows: the map of known preds lies in block W.heap.size. -/
structure PaI (W wr : World) (L : List Int) (P : List Pd) (i : Nat) (v : Value) (n : Nat) : Prop where
  sp : SP wr W.heap.size i (knl L (P.take i))
  pr : PdR (W.heap.size + 1) wr v ((knl L (P.take i)).map (plc L))
  ln : n = (knl L (P.take i)).length
  be : Below W.heap.size W wr

theorem kst_len (L : List Int) (kn : List Pd) (p : Pd) : (kst L kn p).length ≤ kn.length + 1 := by
  unfold kst
  split
  · omega
  · simp

theorem knl_len (L : List Int) (P : List Pd) : (knl L P).length ≤ P.length := by
  have := pls_len L P
  rw [pls_knl, List.length_map] at this
  exact this

theorem pns_le : ∀ {P : List Pd} {p : Pd}, p ∈ P → p.nm.size ≤ pns P
  | x :: r, p, h => by
    simp only [pns]
    rcases List.mem_cons.1 h with rfl | h
    · omega
    · have := pns_le h; omega

set_option maxHeartbeats 4000000 in
set_option maxRecDepth 100000 in
/-- The program's preds at their places. -/
theorem predsAt_any (M nn : Nat) (L : List Int) (pa : Option Addr) (pc : Nat) (P : List Pd) (W : World) (hm : PM W M nn L) (hP : PSl W W.heap.size pa pc P) (hn : pns P ≤ 1048576) (hl : P.length ≤ 1048576) :
    Calls Try.prog 70 #[.map (some M), .slice pa P.length pc] W fun e W' => ∃ v, e = .returned v ∧ PdR W.heap.size W' v ((knl L P).map (plc L)) ∧ Below W.heap.size W W' := by
  obtain ⟨n, hnn⟩ : ∃ n, n = P.length := ⟨_, rfl⟩
  rw [← hnn]
  have hnb : n ≤ 1048576 := by omega
  have hMlt := hm.lt
  have HM := hide hm
  have HP := hide hP
  have HN := hide hnn
  have hmm := run_makeMap136 W
  have HI0 : Hid (PaI W (W.alloc (.map #[] 0)) L P 0 (.slice none 0 0) 0) := ⟨by simpa [knl] using SP.start W, by simpa [knl] using PdR.nil _ _, rfl, below_alloc1 _ _⟩
  clear hm hP hnn
  go_enter Try.func70, Try.ntmps70
  go_wp2_with fail
  clear hmm
  generalize W.alloc (.map #[] 0) = W0 at *
  go_loopw [5, 16] (fun s5 s16 wr => ∃ (i vn vc : Nat) (va : Option Addr), s16 = .int .i64 i ∧ s5 = .slice va vn vc ∧ i ≤ n ∧ Hid (PaI W wr L P i (.slice va vn vc) vn)) (fun _ s16 _ => n - (intOf s16).toNat)
  case atStart => exact ⟨0, 0, 0, none, rfl, rfl, Nat.zero_le _, HI0⟩
  case round =>
    obtain ⟨i, vn, vc, va, rfl, rfl, hi, HI⟩ := hrel
    by_cases hlt : i < n
    · have hlt' : (i : Int) < n := by omega
      obtain ⟨b, o, rfl, hb, hr⟩ := HP.out.row (by rw [← HN.out]; omega)
      obtain ⟨p, hp⟩ : ∃ p, P[i]? = some p := ⟨P[i]'(by rw [← HN.out]; exact hlt), by simp [← HN.out, hlt]⟩
      have c1 := (HI.out.be.cell (p := ⟨b, o + i * 2, none⟩) hb).trans (hr i p hp).1
      have c2 := (HI.out.be.cell (p := ⟨b, o + i * 2 + 1, none⟩) hb).trans (hr i p hp).2
      have hpm := List.mem_of_getElem? hp
      have hok := HP.out.ok p hpm
      have hps := pns_le hpm
      have HTK : Hid (knl L (P.take (i + 1)) = kst L (knl L (P.take i)) p) := by unfold Hid; rw [take_snoc hp, knl_snoc]
      obtain ⟨nm, sd⟩ := p
      simp only at c1 c2 hps
      have kA : Kept (fun _ => True) wr (wr.alloc (.cells #[.string nm, .int .i64 sd] 115)) := Kept.alloc _ _ _
      have hl1 := ((HM.out.below HI.out.be hMlt).kept kA trivial).look sd hok.s
      have hwl := HI.out.be.size
      have zA : (wr.alloc (.cells #[.string nm, .int .i64 sd] 115)).heap.size = wr.heap.size + 1 := by simp
      have HOK := hide hok
      have hsp : W.heap.size < wr.heap.size := HI.out.sp.lt
      clear hr hp hpm hok
      by_cases hin : (⟨nm, sd⟩ : Pd) ∈ knl L (P.take i)
      · have hl2 := (HI.out.sp.kept kA trivial).look nm sd HOK.out.n HOK.out.s true (by simp [hin])
        have HE : Hid (kst L (knl L (P.take i)) ⟨nm, sd⟩ = knl L (P.take i)) := if_pos (.inl hin)
        have HF : Hid (PaI W ((wr.alloc (.cells #[.string nm, .int .i64 sd] 115)).alloc (.cells #[] 83)) L P (i + 1) (.slice va vn vc) vn) := by
          have k2 : Kept (fun _ => True) wr ((wr.alloc (.cells #[.string nm, .int .i64 sd] 115)).alloc (.cells #[] 83)) := kA.trans (Kept.alloc _ _ _)
          refine ⟨?_, ?_, ?_, Below.kept HI.out.be k2 (fun _ _ => trivial) (Nat.le_refl _)⟩
          · rw [HTK.out, HE.out]; exact (HI.out.sp.kept k2 trivial).mono (by omega)
          · rw [HTK.out, HE.out]; exact HI.out.pr.kept k2 (fun _ _ => trivial)
          · rw [HTK.out, HE.out]; exact HI.out.ln
        clear hin kA zA
        go_wp2_with fail
        go_roundw
        case rel => exact ⟨i + 1, vn, vc, va, by go_num, rfl, by omega, HF⟩
        case measure => simp [intOf]; omega
      · have hl2 := (HI.out.sp.kept kA trivial).look nm sd HOK.out.n HOK.out.s false (by simp [hin])
        by_cases hL : sd ∈ L
        · rw [decide_eq_true hL, if_pos hL] at hl1
          have HE : Hid (kst L (knl L (P.take i)) ⟨nm, sd⟩ = knl L (P.take i) ++ [⟨nm, sd⟩]) := if_neg (fun h => h.elim hin (fun h => h hL))
          have HPC : Hid (plc L ⟨nm, sd⟩ = ⟨nm, ((L.idxOf sd : Nat) : Int)⟩) := rfl
          generalize L.idxOf sd = j at hl1 HPC
          obtain ⟨l, hkey⟩ := pkey nm sd HOK.out.n HOK.out.s
          obtain ⟨D0, hD0, hat0⟩ := id HI.out.sp
          have HD := hide ((hD0.alloc (.cells #[.string nm, .int .i64 sd] 115)).alloc (.cells #[] 83))
          have HIm := hide hD0.isMap
          have HAT := hide hat0
          have HKY := hide hkey
          have hib : i < 1048577 := by omega
          have HCl := hide (iClone nm)
          have hvn : vn ≤ 1048576 := by rw [HI.out.ln]; have := knl_len L (P.take i); have h2 := List.length_take_le i P; have := HN.out; omega
          have h63 : vn + 1 ≤ maxLen := by unfold maxLen; omega
          have H63 := hide h63
          unfold pv at hkey
          have xa : ((wr.alloc (.cells #[.string nm, .int .i64 sd] 115)).alloc (.cells #[] 83)).cell? ⟨wr.heap.size, 0, none⟩ = some (.string nm) := by simp
          have xb : ((wr.alloc (.cells #[.string nm, .int .i64 sd] 115)).alloc (.cells #[] 83)).cell? ⟨wr.heap.size, 1, none⟩ = some (.int .i64 sd) := by simp
          have HZ2 : Hid (((wr.alloc (.cells #[.string nm, .int .i64 sd] 115)).alloc (.cells #[] 83)).heap.size = wr.heap.size + 1 + 1) := by simp [Hid]
          have HFN : Hid (∀ w2 w3 w7 g7 cp, w2.ownsMap Try.prog 115 unitElem W.heap.size (i + 1) (D0.put l (.agg [])) → ((wr.alloc (.cells #[.string nm, .int .i64 sd] 115)).alloc (.cells #[] 83)).grownBy w2 (some W.heap.size) → Below w2.heap.size w2 w3 →
              w7.ownsRow (W.heap.size + 1) 115 2 (.slice (some ⟨g7, 0, none⟩) (vn + 1) cp) (vn + 1) (pfl ((knl L (P.take i)).map (plc L)) ++ [.string nm, .int .i64 (j : Int)]) → (w3.alloc (.cells #[.string nm, .int .i64 (j : Int)] 115)).grownBy w7 (Value.slice va vn vc).ownBlock →
              PaI W w7 L P (i + 1) (.slice (some ⟨g7, 0, none⟩) (vn + 1) cp) (vn + 1)) := by
            intro w2 w3 w7 g7 cp hown2 hg2 b3 hO7 hG7
            have k2 : Kept (fun c => c ≠ W.heap.size) wr w2 := ((kA.trans (Kept.alloc _ _ _)).mono (fun _ _ _ => trivial)).trans (Kept.grown hg2 (fun c e h => by cases e; exact h rfl))
            have k3 : Kept (fun _ => True) w2 w3 := Kept.of_below b3 (fun c hc _ => hc)
            have k7 : Kept (fun c => (Value.slice va vn vc).ownBlock ≠ some c) w3 w7 := (Kept.alloc _ _ _).trans (Kept.grown hG7 (fun c e h => h e))
            have hlt7 := HI.out.pr.lt
            have z2 := k2.size
            have z3 := k3.size
            have hnM : (Value.slice va vn vc).ownBlock ≠ some W.heap.size := fun h => by have := (hlt7 _ h).1; omega
            have eL : knl L (P.take (i + 1)) = knl L (P.take i) ++ [⟨nm, sd⟩] := by rw [HTK.out, HE.out]
            refine ⟨?_, ?_, ?_, ?_⟩
            · rw [eL]
              exact ((SP.put HKY.out HIm.out HAT.out hown2).kept k3 trivial).kept k7 hnM
            · rw [eL, List.map_append]
              unfold PdR
              rw [pfl_app, List.length_append, List.length_map, List.length_map, ← HI.out.ln]
              have e2 : pfl (List.map (plc L) [⟨nm, sd⟩]) = [.string nm, .int .i64 (j : Int)] := by simp [pfl, HPC.out]
              rw [e2]
              exact hO7
            · rw [eL, List.length_append, ← HI.out.ln]; rfl
            · have q1 := Below.kept HI.out.be k2 (fun c hc => by omega) (Nat.le_refl _)
              have q2 := Below.kept q1 k3 (fun _ _ => trivial) (Nat.le_refl _)
              exact Below.kept q2 k7 (fun c hc h => by have := (hlt7 _ h).1; omega) (Nat.le_refl _)
          have HO7 : Hid (∀ w2 w3, ((wr.alloc (.cells #[.string nm, .int .i64 sd] 115)).alloc (.cells #[] 83)).grownBy w2 (some W.heap.size) → Below w2.heap.size w2 w3 → (w3.alloc (.cells #[.string nm, .int .i64 (j : Int)] 115)).ownsRow (W.heap.size + 1) 115 2 (.slice va vn vc) vn (pfl ((knl L (P.take i)).map (plc L))) ∧ W.heap.size + 1 ≤ (w3.alloc (.cells #[.string nm, .int .i64 (j : Int)] 115)).heap.size) := by
            intro w2 w3 hg2 b3
            have k2 : Kept (fun c => c ≠ W.heap.size) wr w2 := ((kA.trans (Kept.alloc _ _ _)).mono (fun _ _ _ => trivial)).trans (Kept.grown hg2 (fun c e h => by cases e; exact h rfl))
            have k3 : Kept (fun c => c ≠ W.heap.size) w2 w3 := Kept.of_below b3 (fun c hc _ => hc)
            have hlt7 := HI.out.pr.lt
            have h := HI.out.pr.kept ((k2.trans k3).trans (Kept.alloc _ _ (.cells #[.string nm, .int .i64 (j : Int)] 115))) (fun c hc => by have := (hlt7 _ hc).1; omega)
            have e : ((knl L (P.take i)).map (plc L)).length = vn := by rw [List.length_map]; exact HI.out.ln.symm
            unfold PdR at h
            rw [e] at h
            have z2 := k2.size
            have z3 := k3.size
            exact ⟨h, by simp; omega⟩
          have HXC : Hid (∀ w2, ((wr.alloc (.cells #[.string nm, .int .i64 sd] 115)).alloc (.cells #[] 83)).grownBy w2 (some W.heap.size) → w2.cell? ⟨wr.heap.size, 0, none⟩ = some (.string nm)) := by
            intro w2 hg2
            have k2 : Kept (fun c => c ≠ W.heap.size) ((wr.alloc (.cells #[.string nm, .int .i64 sd] 115)).alloc (.cells #[] 83)) w2 := Kept.grown hg2 (fun c e h => by cases e; exact h rfl)
            exact (k2.cell (p := ⟨wr.heap.size, 0, none⟩) (by have := HZ2.out; show wr.heap.size < _; omega) (by show wr.heap.size ≠ _; omega)).trans xa
          clear hin hL hD0 hat0 kA zA h63
          go_wp2_with (first
            | (at_mapUpdate; refine wpList_mapUpdate_own _ rfl _ _ _ 136 rfl 115 83 pkeyed Try.underlying136 _ W.heap.size i D0 rfl HD.out (by unfold maxLen; omega) _ _ _ rfl rfl hkey _ [] unitElem_mk ?_; intro w2 hown2 hg2; have xc := HXC.out w2 hg2)
            | fail)
          refine (HCl.out w2 (by omega)).mono ?_
          rintro e w3 ⟨rfl, b3⟩
          obtain ⟨hO3, hB3⟩ := HO7.out w2 w3 hg2 b3
          have HO3 := hide hO3
          clear hO3
          go_wp2_with (at_builtin; refine U.ur_stepL rfl _ _ 49 115 rfl Try.info115 Try.underlying49 rfl (by decide) (W.heap.size + 1) (w3.alloc (.cells #[.string nm, .int .i64 (j : Int)] 115)) (.slice va vn vc) vn (pfl ((knl L (P.take i)).map (plc L))) [.string nm, .int .i64 (j : Int)] _ _ rfl rfl hB3 HO3.out (heap_new _ _) rfl (by simp [Value.oneCell']) H63.out (by omega) ?_; intro g7 cp w7 hO7 hG7 hat7; have HF := hide (HFN.out w2 w3 w7 g7 cp hown2 hg2 b3 hO7 hG7); clear hO7 hG7 hat7)
          go_roundw
          case rel => exact ⟨i + 1, vn + 1, cp, some ⟨g7, 0, none⟩, by go_num, rfl, by omega, HF⟩
          case measure => simp [intOf]; omega
        · rw [decide_eq_false hL, if_neg hL] at hl1
          have HE : Hid (kst L (knl L (P.take i)) ⟨nm, sd⟩ = knl L (P.take i)) := if_pos (.inr hL)
          have HF : Hid (PaI W ((wr.alloc (.cells #[.string nm, .int .i64 sd] 115)).alloc (.cells #[] 83)) L P (i + 1) (.slice va vn vc) vn) := by
            have k2 : Kept (fun _ => True) wr ((wr.alloc (.cells #[.string nm, .int .i64 sd] 115)).alloc (.cells #[] 83)) := kA.trans (Kept.alloc _ _ _)
            refine ⟨?_, ?_, ?_, Below.kept HI.out.be k2 (fun _ _ => trivial) (Nat.le_refl _)⟩
            · rw [HTK.out, HE.out]; exact (HI.out.sp.kept k2 trivial).mono (by omega)
            · rw [HTK.out, HE.out]; exact HI.out.pr.kept k2 (fun _ _ => trivial)
            · rw [HTK.out, HE.out]; exact HI.out.ln
          clear hin hL kA zA
          go_wp2_with fail
          go_roundw
          case rel => exact ⟨i + 1, vn, vc, va, by go_num, rfl, by omega, HF⟩
          case measure => simp [intOf]; omega
    · have hlt' : ¬ (i : Int) < n := by omega
      obtain rfl : i = n := by omega
      have HR := hide HI.out.pr
      have hTA := take_all P HN.out
      rw [hTA] at HR
      have HB := hide HI.out.be
      clear hTA
      go_wp2_with fail
      go_ret
      exact ⟨_, rfl, ⟨HR.out.1, by
        rcases HR.out.2 with h | ⟨b, cap, cur, e, hb, rest⟩
        · exact .inl h
        · exact .inr ⟨b, cap, cur, e, by omega, rest⟩⟩, HB.out⟩

end Go.Proofs.Ytcnbnhoeobdbnaa
