import Derived.Test.YtpcnmolncoaddaaDec
namespace Go.Proofs.Ytpcnmolncoaddaa
open Go.RowKit Go.Joins

/-- The text's array of 400 bytes: its last ones are 'out'. -/
def TxtAt (w : World) (b : Nat) (out : List UInt8) : Prop :=
  ∃ cs : Array Value, w.heap[b]? = some (.cells cs 102 (0, 0)) ∧ cs.size = 400 ∧ out.length ≤ 400 ∧ ∀ j (hj : j < out.length), cs[400 - out.length + j]? = some (.int .u8 (out[j].toNat : Int))

def zero102 : Array Value := Array.replicate 400 (.int .u8 0)
theorem run_zero102 (w : World) : (zeroValue 102).run Try.prog w = .ok (.agg zero102) w := by kernel_rfl
theorem wpList_alloc102 {ops : Array Oper} {rest : List Oper} {o : Oper} {a : Act} {w : World} {Q : Exit → Act → World → Prop} (d : Nat) (hd : o.dst = some d) (hg : o.guard = none) (ho : o.op = .alloc 102)
    (h : ∀ w', w'.heap.size = w.heap.size + 1 → TxtAt w' w.heap.size [] → Below w.heap.size w w' → wpList Try.prog ops Q rest (a.put (some d) (.pointer (some ⟨w.heap.size, 0, none⟩))) w') : wpList Try.prog ops Q (o :: rest) a w := by
  refine wpList_plain hg fun K hK => ?_
  unfold Oper.wp
  simp only [execOp, ho, Instr.alloc, Sem.run_bind, run_zero102, Result.andThen]
  refine hK _ _ ?_
  rw [hd]
  exact h (w.alloc (.cells zero102 102)) (by simp) ⟨zero102, heap_alloc_new _ _, by simp [zero102], by simp, fun j hj => by simp at hj⟩ (below_alloc1 _ _)

theorem TxtAt.only {g w w' b out} (h : TxtAt w b out) (ho : Only g w w') (hb : b ≠ g) : TxtAt w' b out := by
  obtain ⟨cs, h1, h2⟩ := h
  exact ⟨cs, (ho.block b hb).trans h1, h2⟩
theorem TxtAt.cell {w b out} (h : TxtAt w b out) (i : Nat) (hi : i < 400) : ∃ u, w.cell? ⟨b, i, none⟩ = some u := by
  obtain ⟨cs, h1, h2, _⟩ := h
  rw [cell_of_block h1]; exact ⟨cs[i], by simp [h2, hi]⟩
theorem TxtAt.frozen {w b out} (h : TxtAt w b out) (i : Nat) : w.frozen? ⟨b, i, none⟩ = false := by
  obtain ⟨cs, h1, h2, _⟩ := h
  exact unfrozen_of_block h1 _
theorem TxtAt.byte {w b out} (h : TxtAt w b out) (j : Nat) (hj : j < out.length) : w.cell? ⟨b, 400 - out.length + j, none⟩ = some (.int .u8 (out[j].toNat : Int)) := by
  obtain ⟨cs, h1, h2, h3, h4⟩ := h
  rw [cell_of_block h1]; exact h4 j hj
theorem TxtAt.push {w b out} (h : TxtAt w b out) (ch : UInt8) (hl : out.length < 400) : TxtAt (w.setCell ⟨b, 400 - out.length - 1, none⟩ (.int .u8 (ch.toNat : Int))) b (ch :: out) := by
  obtain ⟨cs, h1, h2, h3, h4⟩ := h
  refine ⟨_, block_setCell h1 _, by simp [h2], by simp; omega, fun j hj => ?_⟩
  cases j with
  | zero =>
    simp only [List.length_cons, Nat.add_zero, List.getElem_cons_zero]
    rw [show 400 - (out.length + 1) = 400 - out.length - 1 from by omega, Array.getElem?_setIfInBounds_self_of_lt (by rw [h2]; omega)]
  | succ j =>
    simp only [List.length_cons, List.getElem_cons_succ] at hj ⊢
    rw [Array.getElem?_setIfInBounds_ne (by omega), show 400 - (out.length + 1) + (j + 1) = 400 - out.length + j from by omega]
    exact h4 j (by omega)

theorem Try.len102 : Try.prog.arrayLen 102 = 400 := by kernel_rfl
theorem size5 (w : World) : (sizeOf (Try.prog.elem 102)).run Try.prog w = .ok 1 w := by kernel_rfl
theorem slice102 (wr : World) (b p : Nat) (hp : p ≤ 400) : ∃ ad, (Instr.sliceAt 102 (.pointer (some ⟨b, 0, none⟩)) (some (.int .i64 p)) none none).run Try.prog wr = .ok (.slice (some ad) (400 - p) (400 - p)) wr ∧ ∀ j, p + j < 400 → ad.add j = ⟨b, p + j, none⟩ := by
  have h := run_sliceAt_array_l (P := Try.prog) wr 102 ⟨b, 0, none⟩ (by kernel_rfl) .i64 (p : Int) (by omega) (by rw [Try.len102]; omega)
  rw [size5] at h
  refine ⟨if 400 = p then ⟨b, 0, none⟩ else (⟨b, 0, none⟩ : Addr).add (p * 1), ?_, fun j hj => ?_⟩
  · rw [h]
    show Result.ok (slicedAt ⟨b, 0, none⟩ (p : Int).toNat (Try.prog.arrayLen 102) (Try.prog.arrayLen 102) 1) wr = _
    rw [Try.len102]
    rfl
  · rw [if_neg (by omega), addAt, addAt, show 0 + p * 1 + j = p + j from by omega]

set_option maxHeartbeats 4000000 in
set_option maxRecDepth 100000 in
theorem iDigits_any (cs : Array Value) (n : Nat) (f : Nat → Nat) (w : World) (hc : MagC cs n f) (hf : ∀ i, f i < 4294967296) (h0 : ∀ i, n ≤ i → f i = 0) (hn : n ≤ 40) (htop : 0 < n → f (n - 1) ≠ 0) :
    Calls Try.prog 66 #[.agg cs] w fun e w' => e = .returned (.string ⟨(dec 386 (val f n)).toArray⟩) ∧ Below w.heap.size w w' := by
  have hV : val f n < 10 ^ 386 := Nat.lt_of_lt_of_le (Nat.lt_of_lt_of_le (val_lt hf n) (Nat.pow_le_pow_right (by decide) hn)) big10
  have hm0 : MagAt (w.alloc (.cells cs 63)) w.heap.size n f := ⟨cs, heap_alloc_new _ _, hc⟩
  clear hc
  obtain ⟨V0, hV0⟩ : ∃ V, V = val f n := ⟨_, rfl⟩
  rw [← hV0] at hV
  have HV0 := hideD hV0
  have HV := hideD hV
  clear hV0 hV
  go_enter Try.func66, Try.ntmps66
  go_upto_region 2 with ((with_reducible refine wpList_alloc102 3 ?_ ?_ ?_ ?_); rfl; rfl; rfl; intro w1 hz1 ht1 hb1; simp only [World.size_alloc] at hz1 ht1 hb1)
  have hm1 := hm0.below hb1 (by omega)
  have bel1 : Below w.heap.size w w1 := (below_alloc1 w _).trans (hb1.mono (by omega))
  clear hm0 hb1
  go_wp2_with fail
  go_loopw [4] (fun s4 wr => ∃ (n' K : Nat) (f' : Nat → Nat) (out : List UInt8), n' ≤ 40 ∧ (∀ i, f' i < 4294967296) ∧ (∀ i, n' ≤ i → f' i = 0) ∧ MagAt wr w.heap.size n' f' ∧ TxtAt wr (w.heap.size + 1) out ∧ (∃ p : Nat, s4 = .int .i64 p ∧ p + out.length = 400) ∧ K + out.length = 386 ∧ val f' n' < 10 ^ K ∧ dec 386 V0 = dec K (val f' n') ++ out ∧ (0 < n' → f' (n' - 1) ≠ 0) ∧ Below w.heap.size w wr) (fun s4 _ => (intOf s4).toNat)
  case atStart => exact ⟨n, 386, f, [], hn, hf, h0, hm1, ht1, ⟨400, rfl, rfl⟩, rfl, by rw [← HV0.out]; exact HV.out, by rw [← HV0.out]; simp, htop, bel1⟩
  case round =>
    obtain ⟨n', K, f', out, hn', hf', h0', hm', ht', ⟨p, rfl, hp0⟩, hK, hV', hD, htop', bel'⟩ := hrel
    clear hm1 ht1 htop h0 hf bel1
    have HD := hideD hD
    have HF' := hideD hf'
    have H0' := hideD h0'
    clear hD hf' h0'
    have e1 := hm'.count
    rcases Nat.eq_zero_or_pos n' with hz | hp'
    · subst hz
      have HE : Hid (dec 386 V0 = out) := by unfold Hid; rw [HD.out]; show dec K 0 ++ out = out; rw [dec_zero]; rfl
      have hp1 : p ≤ 400 := by omega
      obtain ⟨ad, hsl, had⟩ := slice102 wr (w.heap.size + 1) p hp1
      have hcv : (convert 22 9 (.slice (some ad) (400 - p) (400 - p))).run Try.prog wr = .ok (.string ⟨out.toArray⟩) wr := by
        have h := run_convert_bytes_back (P := Try.prog) wr 22 9 5 ad (400 - p) out Try.underlying22 Try.underlying5 Try.underlying9 (fun j hj => by
          have h1 := ht'.byte j hj
          rw [had j (by omega), show p + j = 400 - out.length + j from by omega]
          exact h1)
        rw [show out.length = 400 - p from by omega] at h
        exact h
      clear had
      clear hp0 hK HD hV' H0' HF' ht' hm' htop'
      go_wp2_with fail
      go_ret
      exact ⟨by rw [← HV0.out, HE.out]; rfl, bel'⟩
    · have hVp : 0 < val f' n' := by
        obtain ⟨k, rfl⟩ : ∃ k, n' = k + 1 := ⟨n' - 1, by omega⟩
        have := val_top (htop' (by omega))
        have h2 := pow_pos' k
        simp only [Nat.add_sub_cancel] at this
        omega
      go_wp2_with fail
      refine (divLimb_any w.heap.size n' 1000000000 f' _ hm' (by omega) (by omega) (by omega) HF'.out H0'.out).mono ?_
      rintro e w5 ⟨rfl, hm5, ho5⟩
      have ht5 := ht'.only ho5 (by omega)
      have bel5 := bel'.trans (ho5.below (Nat.le_refl _))
      have hvd := val_div (f := f') (d := 1000000000) (n := n') (by omega)
      have hvt := val_trim (dq f' 1000000000 n') n'
      have hle := trimN_le (dq f' 1000000000 n') n'
      have Ht := hideD (trimN_top (dq f' 1000000000 n') n')
      have Hlt := hideD (fun i => dq_lt (n := n') (show 0 < 1000000000 by omega) HF'.out i)
      have Htz := hideD (trimN_zero (dq f' 1000000000 n') n')
      obtain ⟨V, hVV⟩ : ∃ V, V = val f' n' := ⟨_, rfl⟩
      rw [← hVV] at hvd hVp hV'
      have HD2 : Hid (dec 386 V0 = dec K V ++ out) := by rw [hVV]; exact HD.out
      rw [hvd.2]
      have HM : Hid (val (dq f' 1000000000 n') (trimN (dq f' 1000000000 n') n') = V / 1000000000) := by unfold Hid; rw [hvt, hvd.1]
      clear hvd hvt HD hm' ho5 ht' bel' HF' H0' hVV e1 htop'
      generalize hq : dq f' 1000000000 n' = Q at *
      clear hq
      generalize trimN Q n' = n2 at *
      have e2 := hm5.count
      have hVK : V < 10 ^ K := hV'
      clear hV'
      go_wp2_with fail
      go_loopw [4, 5, 6] (fun s4 s5 s6 wy => ∃ (i X K' p' : Nat) (out' : List UInt8), i ≤ 9 ∧ s6 = .int .i64 i ∧ s5 = .int .u32 ((X % 10 ^ (9 - i) : Nat) : Int) ∧ X / 10 ^ (9 - i) = V / 1000000000 ∧ s4 = .int .i64 p' ∧ p' + out'.length = 400 ∧ K' + out'.length = 386 ∧ X < 10 ^ K' ∧ dec 386 V0 = dec K' X ++ out' ∧ MagAt wy w.heap.size n2 (ext n' Q) ∧ TxtAt wy (w.heap.size + 1) out' ∧ p' ≤ p ∧ (i = 0 → X = V) ∧ (0 < i → p' < p) ∧ Below w.heap.size w wy) (fun _ _ s6 _ => 9 - (intOf s6).toNat)
      case atStart => exact ⟨0, V, K, p, out, by omega, rfl, rfl, rfl, rfl, hp0, hK, hVK, HD2.out, hm5, ht5, Nat.le_refl _, fun _ => rfl, fun h => by omega, bel5⟩
      case round =>
        rename World => wy
        obtain ⟨i, X, K', p', out', hi, rfl, rfl, hXM, rfl, hp2, hK2, hXK, hD3, hm6, ht6, hpp, hi0, hip, bel6⟩ := hrel
        have HXM := hideD hXM
        have HXK := hideD hXK
        have HD3 := hideD hD3
        clear hXM hXK hD3 hm5 ht5 bel5 hVK HD2
        by_cases hi9 : i < 9
        · have hp10 : 10 * 10 ^ (9 - (i + 1)) = 10 ^ (9 - i) := by rw [show 9 - i = 9 - (i + 1) + 1 from by omega, pow10_s]
          have hcb : X % 10 ^ (9 - i) < 1000000000 := Nat.lt_of_lt_of_le (Nat.mod_lt _ (Nat.pos_of_ne_zero (by simp))) (Nat.le_trans (Nat.pow_le_pow_right (by decide) (show 9 - i ≤ 9 by omega)) (by decide))
          have hc1 : X % 10 ^ (9 - i) % 10 = X % 10 := Nat.mod_mod_of_dvd _ ⟨_, hp10.symm⟩
          have hc2 : X % 10 ^ (9 - i) / 10 = X / 10 % 10 ^ (9 - (i + 1)) := by rw [← hp10]; exact Nat.mod_mul_right_div_self X 10 _
          have hcX : X / 10 ^ (9 - i) = 0 → X % 10 ^ (9 - i) = 0 → X = 0 := fun h1 h2 => by
            have := Nat.div_add_mod X (10 ^ (9 - i)); rw [h1, h2] at this; simp at this; exact this.symm
          have hX1 : 0 < X % 10 ^ (9 - i) → 0 < X := fun h => by
            rcases Nat.eq_zero_or_pos X with h0 | h0
            · rw [h0] at h; simp at h
            · exact h0
          have hX2 : 0 < X / 10 ^ (9 - i) → 0 < X := fun h => by
            rcases Nat.eq_zero_or_pos X with h0 | h0
            · rw [h0] at h; simp at h
            · exact h0
          generalize X % 10 ^ (9 - i) = c at *
          by_cases hc0 : 0 < c
          · have hX : 0 < X := hX1 hc0
            clear hX1 hX2 hcX
            obtain ⟨K2, rfl⟩ := dec_fuel HXK.out hX
            obtain ⟨q, rfl⟩ : ∃ q, p' = q + 1 := ⟨p' - 1, by omega⟩
            obtain ⟨u, hu⟩ := ht6.cell q (by omega)
            have hfz := ht6.frozen q
            have e2 := hm6.count
            obtain ⟨ch, hch⟩ : ∃ ch, ch = UInt8.ofNat (48 + X % 10) := ⟨_, rfl⟩
            have hct : ((ch.toNat : Nat) : Int) = 48 + (c : Int) % 10 := by rw [hch]; simp; omega
            have Hct := hideD hct
            have hpush := ht6.push ch (by omega)
            rw [show 400 - out'.length - 1 = q from by omega, hct] at hpush
            have hoo : Only (w.heap.size + 1) wy (wy.setCell ⟨w.heap.size + 1, q, none⟩ (.int .u8 (48 + (c : Int) % 10))) := Only.setCell wy ⟨w.heap.size + 1, q, none⟩ _
            have hm7 := hm6.only hoo (by omega)
            have bel7 := bel6.trans (hoo.below (by omega))
            have R : Hid (((c / 10 : Nat) : Int) = ((X / 10 % 10 ^ (9 - (i + 1)) : Nat) : Int) ∧ X / 10 / 10 ^ (9 - (i + 1)) = V / 1000000000 ∧ X / 10 < 10 ^ K2 ∧ dec 386 V0 = dec K2 (X / 10) ++ (ch :: out')) := by
              refine ⟨by rw [hc2], ?_, dec_bound HXK.out, ?_⟩
              · rw [← HXM.out, Nat.div_div_eq_div_mul, hp10]
              · rw [HD3.out, dec_step _ _ hX, ← hch]; simp
            clear hct hch Hct hoo ht6 hm6 bel6 HXM HXK HD3 hc1 hc2 hi0 hip
            go_wp2_with fail
            go_roundw
            case rel => exact ⟨i + 1, X / 10, K2, q, ch :: out', by omega, by go_num, congrArg (Value.int .u32) R.out.1, R.out.2.1, rfl, by simp; omega, by simp; omega, R.out.2.2.1, R.out.2.2.2, hm7, hpush, by omega, fun h => by omega, fun _ => by omega, bel7⟩
            case measure => simp [intOf]; omega
          by_cases hn2 : 0 < n2
          · have hX : 0 < X := hX2 (by
              rw [HXM.out, ← HM.out]
              obtain ⟨k, rfl⟩ : ∃ k, n2 = k + 1 := ⟨n2 - 1, by omega⟩
              have h1 := val_top (Ht.out (by omega))
              have h2 := pow_pos' k
              simp only [Nat.add_sub_cancel] at h1
              omega)
            clear hX1 hX2 hcX
            have dc : decide (0 < (c : Int)) = false := decide_eq_false (by omega)
            obtain ⟨K2, rfl⟩ := dec_fuel HXK.out hX
            obtain ⟨q, rfl⟩ : ∃ q, p' = q + 1 := ⟨p' - 1, by omega⟩
            obtain ⟨u, hu⟩ := ht6.cell q (by omega)
            have hfz := ht6.frozen q
            have e2 := hm6.count
            obtain ⟨ch, hch⟩ : ∃ ch, ch = UInt8.ofNat (48 + X % 10) := ⟨_, rfl⟩
            have hct : ((ch.toNat : Nat) : Int) = 48 + (c : Int) % 10 := by rw [hch]; simp; omega
            have Hct := hideD hct
            have hpush := ht6.push ch (by omega)
            rw [show 400 - out'.length - 1 = q from by omega, hct] at hpush
            have hoo : Only (w.heap.size + 1) wy (wy.setCell ⟨w.heap.size + 1, q, none⟩ (.int .u8 (48 + (c : Int) % 10))) := Only.setCell wy ⟨w.heap.size + 1, q, none⟩ _
            have hm7 := hm6.only hoo (by omega)
            have bel7 := bel6.trans (hoo.below (by omega))
            have R : Hid (((c / 10 : Nat) : Int) = ((X / 10 % 10 ^ (9 - (i + 1)) : Nat) : Int) ∧ X / 10 / 10 ^ (9 - (i + 1)) = V / 1000000000 ∧ X / 10 < 10 ^ K2 ∧ dec 386 V0 = dec K2 (X / 10) ++ (ch :: out')) := by
              refine ⟨by rw [hc2], ?_, dec_bound HXK.out, ?_⟩
              · rw [← HXM.out, Nat.div_div_eq_div_mul, hp10]
              · rw [HD3.out, dec_step _ _ hX, ← hch]; simp
            clear hct hch Hct hoo ht6 hm6 bel6 HXM HXK HD3 hc1 hc2 hi0 hip
            go_wp2_with fail
            go_roundw
            case rel => exact ⟨i + 1, X / 10, K2, q, ch :: out', by omega, by go_num, congrArg (Value.int .u32) R.out.1, R.out.2.1, rfl, by simp; omega, by simp; omega, R.out.2.2.1, R.out.2.2.2, hm7, hpush, by omega, fun h => by omega, fun _ => by omega, bel7⟩
            case measure => simp [intOf]; omega
          have hM0 : V / 1000000000 = 0 := by rw [← HM.out, show n2 = 0 from by omega]; rfl
          have hX0 : X = 0 := hcX (by rw [HXM.out, hM0]) (by omega)
          have hXe : X = V / 1000000000 := by rw [hX0, hM0]
          have dc : decide (0 < (c : Int)) = false := decide_eq_false (by omega)
          have dn : decide (0 < (n2 : Int)) = false := decide_eq_false (by omega)
          clear hX1 hX2 hcX hc1 hc2 hcb hM0
          have e2 := hm6.count
          have hfin : Hid (val Q n2 < 10 ^ K' ∧ dec 386 V0 = dec K' (val Q n2) ++ out') := by
            unfold Hid
            rw [HM.out, ← hXe]
            exact ⟨HXK.out, HD3.out⟩
          have hlast : p' < p := by
            apply hip
            rcases Nat.eq_zero_or_pos i with h | h
            · exfalso; have := hi0 h; omega
            · exact h
          have hm8 : MagAt wy w.heap.size n2 (ext n2 Q) := by
            have he : ext n' Q = ext n2 Q := by
              funext x
              unfold ext
              by_cases h1 : x < n2
              · rw [if_pos h1, if_pos (by omega)]
              · rw [if_neg h1]
                by_cases h2 : x < n'
                · rw [if_pos h2]; exact Htz.out x (by omega) h2
                · rw [if_neg h2]
            rw [← he]; exact hm6
          have hve : Hid (val (ext n2 Q) n2 = val Q n2) := val_congr (fun x hx => by simp [ext, hx])
          clear hm6 HXM HXK HD3 hi0 hip
          go_wp2_with fail
          go_roundw
          case rel => exact ⟨n2, K', ext n2 Q, out', by omega, fun x => by unfold ext; split; exact Hlt.out x; omega, ext_ge n2 Q, hm8, ht6, ⟨p', rfl, hp2⟩, hK2, by rw [hve.out]; exact hfin.out.1, by rw [hve.out]; exact hfin.out.2, fun h => by have := Ht.out h; simp only [ext]; rw [if_pos (by omega)]; exact this, bel6⟩
          case measure => simp [intOf]; omega
        · obtain rfl : i = 9 := by omega
          have hXe : X = V / 1000000000 := by have := HXM.out; simpa using this
          have hc9 : X % 10 ^ (9 - 9) = 0 := by simp [Nat.mod_one]
          rw [hc9]
          have e2 := hm6.count
          have hfin : Hid (val Q n2 < 10 ^ K' ∧ dec 386 V0 = dec K' (val Q n2) ++ out') := by
            unfold Hid
            rw [HM.out, ← hXe]
            exact ⟨HXK.out, HD3.out⟩
          have hlast : p' < p := hip (by omega)
          have hm8 : MagAt wy w.heap.size n2 (ext n2 Q) := by
            have he : ext n' Q = ext n2 Q := by
              funext x
              unfold ext
              by_cases h1 : x < n2
              · rw [if_pos h1, if_pos (by omega)]
              · rw [if_neg h1]
                by_cases h2 : x < n'
                · rw [if_pos h2]; exact Htz.out x (by omega) h2
                · rw [if_neg h2]
            rw [← he]; exact hm6
          have hve : Hid (val (ext n2 Q) n2 = val Q n2) := val_congr (fun x hx => by simp [ext, hx])
          clear hm6 HXM HXK HD3 hi0 hip
          go_wp2_with fail
          go_roundw
          case rel => exact ⟨n2, K', ext n2 Q, out', by omega, fun x => by unfold ext; split; exact Hlt.out x; omega, ext_ge n2 Q, hm8, ht6, ⟨p', rfl, hp2⟩, hK2, by rw [hve.out]; exact hfin.out.1, by rw [hve.out]; exact hfin.out.2, fun h => by have := Ht.out h; simp only [ext]; rw [if_pos (by omega)]; exact this, bel6⟩
          case measure => simp [intOf]; omega

end Go.Proofs.Ytpcnmolncoaddaa
