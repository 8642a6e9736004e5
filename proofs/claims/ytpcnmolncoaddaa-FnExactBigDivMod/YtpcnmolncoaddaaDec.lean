import Derived.Test.YtpcnmolncoaddaaDiv1
import Derived.Test.YtpcnmolncoaddaaSMul
namespace Go.Proofs.Ytpcnmolncoaddaa
open Go.RowKit Go.Joins

/-- At most K decimal digits of N, none for 0. -/
def dec : Nat → Nat → List UInt8
  | 0, _ => []
  | K + 1, N => if N = 0 then [] else dec K (N / 10) ++ [UInt8.ofNat (48 + N % 10)]

theorem dec_zero (K : Nat) : dec K 0 = [] := by cases K <;> simp [dec]
theorem dec_step (K N : Nat) (h : 0 < N) : dec (K + 1) N = dec K (N / 10) ++ [UInt8.ofNat (48 + N % 10)] := by
  show (if N = 0 then _ else _) = _
  rw [if_neg (by omega)]
theorem pow10_s (K : Nat) : 10 ^ (K + 1) = 10 * 10 ^ K := by rw [Nat.pow_succ, Nat.mul_comm]
theorem dec_bound {K N : Nat} (h : N < 10 ^ (K + 1)) : N / 10 < 10 ^ K := by rw [pow10_s] at h; omega
theorem dec_fuel {K N : Nat} (h : N < 10 ^ K) (h0 : 0 < N) : ∃ K', K = K' + 1 := by
  cases K with
  | zero => simp at h; omega
  | succ K => exact ⟨K, rfl⟩
theorem big10 : (4294967296 : Nat) ^ 40 ≤ 10 ^ 386 := by decide +kernel

theorem hideD {p : Prop} (h : p) : Hid p := h

def strLen : Value → Nat | .string s => s.size | _ => 0

/-- The inner loop of l1Digits. -/
def NextSt (wy : World) (b n k : Nat) (f : Nat → Nat) : Prop := Half wy b n n (fun i => if k ≤ i then dq f 10 n i else 0)

set_option maxHeartbeats 2000000 in
set_option maxRecDepth 100000 in
theorem sDigits_pos (v : Value) (n : Nat) (f : Nat → Nat) (w : World) (hL : Lim w v n f) (hf : ∀ i, f i < 4294967296) (hp : 0 < n) (hn : n ≤ 40) (htop : 0 < n → f (n - 1) ≠ 0) :
    Calls Try.prog 80 #[v] w fun e w' => e = .returned (.string ⟨(dec 386 (val f n)).toArray⟩) ∧ Below w.heap.size w w' := by
  obtain ⟨a, c, rfl, -⟩ := id hL
  have hV : val f n < 10 ^ 386 := Nat.lt_of_lt_of_le (Nat.lt_of_lt_of_le (val_lt hf n) (Nat.pow_le_pow_right (by decide) hn)) big10
  have hn0 : ((n : Int) == 0) = false := by simp; omega
  go_enter Try.func80, Try.ntmps80
  go_wp2_with fail
  go_loopw [0, 3] (fun s0 s3 wr => ∃ (n' K : Nat) (f' : Nat → Nat) (out : List UInt8), n' ≤ 40 ∧ (∀ i, f' i < 4294967296) ∧ Lim wr s0 n' f' ∧ s3 = .string ⟨out.toArray⟩ ∧ K + out.length = 386 ∧ val f' n' < 10 ^ K ∧ dec 386 (val f n) = dec K (val f' n') ++ out ∧ (0 < n' → f' (n' - 1) ≠ 0) ∧ Below w.heap.size w wr) (fun _ s3 _ => 386 - strLen s3)
  case atStart => exact ⟨n, 386, f, [], hn, hf, hL, rfl, rfl, hV, by simp, htop, Below.refl _ _⟩
  case round =>
    obtain ⟨n', K, f', out, hn', hf', hL', rfl, hK, hV', hD, htop', bel'⟩ := hrel
    clear htop hL hV
    have HD : Hid (dec 386 (val f n) = dec K (val f' n') ++ out) := hD
    clear hD
    obtain ⟨a1, c1, rfl, k1, k2, -, k4⟩ := id hL'
    rcases Nat.eq_zero_or_pos n' with hz | hp'
    · subst hz
      have HE : Hid (dec 386 (val f n) = out) := by unfold Hid; rw [HD.out]; show dec K 0 ++ out = out; rw [dec_zero]; rfl
      go_wp2_with fail
      go_ret
      exact ⟨by rw [HE.out]; rfl, bel'⟩
    · obtain ⟨b1, off1, rfl, h5⟩ := k4 hp'
      have hVp : 0 < val f' n' := by
        obtain ⟨k, rfl⟩ : ∃ k, n' = k + 1 := ⟨n' - 1, by omega⟩
        have := val_top (htop' (by omega))
        have h2 := pow_pos' k
        simp only [Nat.add_sub_cancel] at this
        omega
      obtain ⟨K', rfl⟩ := dec_fuel hV' hVp
      have hmk := run_make_row' (P := Try.prog) 23 60 (.int .u32 0) 4 Try.underlying23 Try.info60 rfl .i64 .i64 n' (by omega) (by omega)
      have z1 := bel'.size
      have hb1 : b1 < wr.heap.size := block_lt_of_cell (h5 0 hp')
      have HF' : Hid (∀ i, f' i < 4294967296) := hf'
      have H5 : Hid (∀ i, i < n' → wr.cell? ⟨b1, off1 + i, none⟩ = some (.int .u32 (f' i))) := h5
      clear hf' h5 k4 hL'
      go_wp2_with fail
      clear hmk
      go_loopw [4, 6] (fun s4 s6 wy => ∃ k : Nat, k ≤ n' ∧ s6 = .int .i64 ((k : Int) - 1) ∧ s4 = .int .u64 (dr f' 10 n' (n' - k)) ∧ NextSt wy wr.heap.size n' k f' ∧ Below wr.heap.size wr wy) (fun _ s6 _ => (intOf s6 + 1).toNat)
      case atStart => exact ⟨n', Nat.le_refl _, rfl, by rw [Nat.sub_self]; rfl, (half_made wr n').eq (fun i hi => by rw [if_neg (by omega)]), below_alloc1 _ _⟩
      case round =>
        rename World => wy
        obtain ⟨k, hk, rfl, rfl, hm', bel2⟩ := hrel
        rcases Nat.eq_zero_or_pos k with hz | hp
        · subst hz
          have hb : dr f' 10 n' (n' - 0) < 10 := dr_lt (by omega) _
          simp only [Nat.sub_zero] at hb ⊢
          have Hr : Hid (dr f' 10 n' n' = val f' n' % 10) := (val_div (by omega)).2
          generalize dr f' 10 n' n' = r at *
          obtain ⟨ch, hch⟩ : ∃ ch, ch = UInt8.ofNat (48 + r) := ⟨_, rfl⟩
          have hcv : (convert 22 9 (.slice (some ⟨wy.heap.size, 0, none⟩) 1 1)).run Try.prog (wy.alloc (.cells #[.int .u8 (48 + (r : Int))] 5)) = .ok (.string ⟨#[ch]⟩) (wy.alloc (.cells #[.int .u8 (48 + (r : Int))] 5)) :=
            run_convert_bytes_back (P := Try.prog) (wy.alloc (.cells #[.int .u8 (48 + (r : Int))] 5)) 22 9 5 ⟨wy.heap.size, 0, none⟩ 1 [ch] Try.underlying22 Try.underlying5 Try.underlying9 (fun j hj => by
              have : j = 0 := by simpa using hj
              subst this
              simp [Addr.add, hch]
              omega)
          have Hch : Hid (ch = UInt8.ofNat (48 + r)) := hch
          clear hch
          have hol : (out.length : Int) ≤ 8388608 := by omega
          have hq := hm'.eq (f' := dq f' 10 n') (fun i _ => by rw [if_pos (Nat.zero_le _)])
          have ho := hq.own (B' := 0) rfl (Nat.zero_le _) (by unfold maxLen; omega) (fun i _ => dq_lt (by omega) HF'.out i)
          have z2 := bel2.size
          go_wp2_with fail
          refine (trim_any (ho.lim.below (below_alloc1 _ _)) ho.nil (by omega)).mono ?_
          rintro e w5 ⟨v5, rfl, hr5, hb5⟩
          have ho5 := hr5.own (fun i _ => dq_lt (by omega) HF'.out i)
          obtain ⟨a5, c5, rfl, -⟩ := id ho5
          have bel5 : Below w.heap.size w w5 := (((bel'.trans (bel2.mono z1)).alloc (by omega) _)).trans (hb5.mono (by simp; omega))
          have hvd := (val_div (f := f') (d := 10) (n := n') (by omega)).1
          have hvt := val_trim (dq f' 10 n') n'
          have hle := trimN_le (dq f' 10 n') n'
          have R : Hid (val (dq f' 10 n') (trimN (dq f' 10 n') n') < 10 ^ K' ∧ dec 386 (val f n) = dec K' (val (dq f' 10 n') (trimN (dq f' 10 n') n')) ++ (ch :: out)) := by
            unfold Hid
            rw [hvt, hvd]
            refine ⟨dec_bound hV', ?_⟩
            rw [HD.out, dec_step _ _ hVp, ← Hr.out, ← Hch.out]
            simp
          have Ht := hideD (trimN_top (dq f' 10 n') n')
          have Hlt := hideD (fun i => dq_lt (n := n') (show 0 < 10 by omega) HF'.out i)
          generalize trimN (dq f' 10 n') n' = n2 at *
          generalize dq f' 10 n' = f2 at *
          clear hcv hq ho hr5 hb5 hm' bel2 hvd hvt HD Hr hV' hVp
          go_wp2_with fail
          go_roundw
          case rel => exact ⟨n2, K', f2, ch :: out, by omega, Hlt.out, ho5.lim, congrArg Value.string (ByteArray.mk_append_mk [ch] out), by simp; omega, R.out.1, R.out.2, Ht.out, bel5⟩
          case measure =>
            have e : (ByteArray.mk #[ch] ++ ByteArray.mk out.toArray) = ByteArray.mk (ch :: out).toArray := ByteArray.mk_append_mk [ch] out
            have e1 : (ByteArray.mk (ch :: out).toArray).size = out.length + 1 := by simp [ByteArray.size]
            have e2 : (ByteArray.mk out.toArray).size = out.length := by simp [ByteArray.size]
            simp only [strLen, e, e1, e2]
            omega
        · obtain ⟨j, rfl⟩ : ∃ j, k = j + 1 := ⟨k - 1, by omega⟩
          have g1 : wy.cell? ⟨b1, off1 + j, none⟩ = some (.int .u32 (f' j)) := (bel2.cell (p := ⟨b1, off1 + j, none⟩) hb1).trans (H5.out j (by omega))
          have g3 := hm'.limb j (by omega)
          have g4 := hm'.frozen j
          have bf := HF'.out j
          have br : dr f' 10 n' (n' - (j + 1)) < 10 := dr_lt (by omega) _
          have er : Hid (dr f' 10 n' (n' - j) = (dr f' 10 n' (n' - (j + 1)) * 4294967296 + f' j) % 10) := by
            unfold Hid
            rw [show n' - j = n' - (j + 1) + 1 from by omega]
            show (dr f' 10 n' (n' - (j + 1)) * 4294967296 + f' (n' - 1 - (n' - (j + 1)))) % 10 = _
            rw [show n' - 1 - (n' - (j + 1)) = j from by omega]
          have eq : Hid (dq f' 10 n' j = (dr f' 10 n' (n' - (j + 1)) * 4294967296 + f' j) / 10) := by
            unfold Hid dq; rw [show n' - 1 - j = n' - (j + 1) from by omega]
          generalize dr f' 10 n' (n' - (j + 1)) = r at *
          have ei : (((j + 1 : Nat) : Int) - 1) = (j : Int) := by omega
          rw [ei]
          clear ei
          go_upto_region 11 with fail
          rw [or_hi _ _ bf (by omega)]
          have hX0 : r * 4294967296 + f' j ≤ 42949672959 := by omega
          generalize r * 4294967296 + f' j = X at *
          have eq' : Hid ((X : Int) / 10 = ((dq f' 10 n' j : Nat) : Int)) := by unfold Hid; rw [eq.out]; omega
          have er' : Hid ((X : Int) % 10 = ((dr f' 10 n' (n' - j) : Nat) : Int)) := by unfold Hid; rw [er.out]; omega
          clear eq er br bf g1
          go_wp2_with fail
          go_roundw
          case rel =>
            refine ⟨j, by omega, rfl, by rw [er'.out], ?_, bel2.setCell (by exact Nat.le_refl _) _⟩
            have := hm'.setAt j (dq f' 10 n' j) (by omega)
            rw [← eq'.out] at this
            refine this.eq (fun i hi => ?_)
            show (if i = j then _ else if j + 1 ≤ i then dq f' 10 n' i else 0) = if j ≤ i then dq f' 10 n' i else 0
            by_cases h : i = j
            · subst h; rw [if_pos rfl, if_pos (Nat.le_refl _)]
            · rw [if_neg h]
              by_cases h2 : j + 1 ≤ i
              · rw [if_pos h2, if_pos (by omega)]
              · rw [if_neg h2, if_neg (by omega)]
          case measure => simp [intOf]

end Go.Proofs.Ytpcnmolncoaddaa
