import Derived.Test.YtpcnmolncoaddaaLong4
import Derived.Shelf.Small.Bits
import Derived.Test.YtpcnmolncoaddaaLongN
import Derived.Deep.RegionHeld3
import Derived.Test.YtpcnmolncoaddaaNum
import Derived.Test.YtpcnmolncoaddaaQS
import Derived.Deep.DeepCutAuto
namespace Go.Proofs.Ytpcnmolncoaddaa
open Go.RowKit Go.Joins Go.Shelf

def Try.lays133_ren : Go.Shelf.Ren := ⟨fun | 133 => 95 | 128 => 102 | n => n, fun | 51 => 60 | 3 => 3 | 4 => 4 | 46 => 82 | 5 => 5 | 9 => 9 | n => n, fun | n => n⟩
theorem Try.lays133 : Go.Proofs.Lays.n133 Try.prog Try.lays133_ren := {
  mixed := by kernel_rfl
  f128 := Try.func102.trans (congrArg some (by kernel_rfl))
  f133 := Try.func95.trans (congrArg some (by kernel_rfl))
  t3 := Try.underlying3
  a3 := Try.isAgg3
  z3 := Try.sizeOf3
  v3 := Try.zeroValue3
  t4 := Try.underlying4
  a4 := Try.isAgg4
  z4 := Try.sizeOf4
  v4 := Try.zeroValue4
  t5 := Try.underlying5
  a5 := Try.isAgg5
  z5 := Try.sizeOf5
  v5 := Try.zeroValue5
  t9 := Try.underlying9
  a9 := Try.isAgg9
  z9 := Try.sizeOf9
  v9 := Try.zeroValue9
  t46 := Try.underlying82
  a46 := Try.isAgg82
  z46 := Try.sizeOf82
  v46 := Try.zeroValue82
  t51 := Try.underlying60
  a51 := Try.isAgg60
  z51 := Try.sizeOf60
  v51 := Try.zeroValue60 }

theorem bitLen_bounds : ∀ x : Nat, 0 < x → x < 2 ^ 64 → 0 < Lib.bitLen x ∧ 2 ^ (Lib.bitLen x - 1) ≤ x ∧ x < 2 ^ Lib.bitLen x := by
  intro x
  induction x using Nat.strongRecOn with
  | _ x ih =>
    intro h0 h1
    rw [Lib.bitLen_half x (by omega) h1]
    by_cases h2 : x / 2 = 0
    · have : x = 1 := by omega
      subst this
      decide
    · obtain ⟨i1, i2, i3⟩ := ih (x / 2) (by omega) (by omega) (by omega)
      generalize Lib.bitLen (x / 2) = L at *
      obtain ⟨j, rfl⟩ : ∃ j, L = j + 1 := ⟨L - 1, by omega⟩
      rw [show 1 + (j + 1) - 1 = j + 1 by omega, show 1 + (j + 1) = j + 1 + 1 by omega]
      rw [show j + 1 - 1 = j by omega] at i2
      have e1 : 2 ^ (j + 1) = 2 * 2 ^ j := by rw [Nat.pow_succ, Nat.mul_comm]
      have e2 : 2 ^ (j + 1 + 1) = 2 * 2 ^ (j + 1) := by rw [Nat.pow_succ, Nat.mul_comm]
      refine ⟨by omega, ?_, ?_⟩
      · rw [e1]; omega
      · rw [e2]; omega

/-- How far a limb is shifted until its top bit is set. -/
theorem zeros_any (x : Nat) (w : World) (h0 : 0 < x) (h1 : x < 4294967296) :
    Calls Try.prog 95 #[.int .u32 x] w fun e w' => ∃ sh : Nat, e = .returned (.int .i64 sh) ∧ sh ≤ 31 ∧ 2147483648 ≤ x * 2 ^ sh ∧ x * 2 ^ sh < 4294967296 ∧ w' = w := by
  refine (Any.bits_LeadingZeros32 Try.lays133 (x : Int) w (by omega) (by omega)).mono ?_
  rintro e w' ⟨rfl, rfl⟩
  rw [Int.toNat_natCast]
  obtain ⟨b1, b2, b3⟩ := bitLen_bounds x h0 (by omega)
  have hle : Lib.bitLen x ≤ 32 := by
    apply Decidable.byContradiction
    intro hn
    have : 2 ^ 32 ≤ 2 ^ (Lib.bitLen x - 1) := Nat.pow_le_pow_right (by decide) (by omega)
    omega
  generalize Lib.bitLen x = L at *
  refine ⟨32 - L, by congr 2; omega, by omega, ?_, ?_, rfl⟩
  · have e : 2 ^ (L - 1) * 2 ^ (32 - L) = 2147483648 := by rw [← Nat.pow_add, show L - 1 + (32 - L) = 31 by omega]
    rw [← e]
    exact Nat.mul_le_mul_right _ b2
  · have e : 2 ^ L * 2 ^ (32 - L) = 4294967296 := by rw [← Nat.pow_add, show L + (32 - L) = 32 by omega]
    rw [← e]
    exact Nat.mul_lt_mul_of_pos_right b3 (Nat.pos_of_ne_zero (by simp))

end Go.Proofs.Ytpcnmolncoaddaa

namespace Go.Proofs.Ytpcnmolncoaddaa
open Go.RowKit Go.Joins

theorem results2_63 {fn : Func} {p q : Tmp} (h : fn.results = #[.cell p 63, .cell q 63]) (tmps : Array Value) (w : World) (g g' n n' : Nat) (f f' : Nat → Nat) (cs cs' : Array Value)
    (hp : tmps.getD p undef = .pointer (some ⟨g, 0, none⟩)) (hq : tmps.getD q undef = .pointer (some ⟨g', 0, none⟩)) (h1 : w.heap[g]? = some (.cells cs 63 (0, 0))) (h1' : w.heap[g']? = some (.cells cs' 63 (0, 0))) (h2 : MagC cs n f) (h2' : MagC cs' n' f') :
    (results fn tmps).run Try.prog w = .ok (.tuple #[.agg cs, .agg cs']) w := by
  have hp' : tmps[p]?.getD undef = .pointer (some ⟨g, 0, none⟩) := by simpa using hp
  have hq' : tmps[q]?.getD undef = .pointer (some ⟨g', 0, none⟩) := by simpa using hq
  have l1 := run_loadVar_row (P := Try.prog) w g 63 63 cs (0, 0) _ h1 Try.underlying63 rfl (by rw [h2.size]; exact Try.size63)
  have l2 := run_loadVar_row (P := Try.prog) w g' 63 63 cs' (0, 0) _ h1' Try.underlying63 rfl (by rw [h2'.size]; exact Try.size63)
  simp [results, h, hp', hq', asAddr, l1, l2]

theorem long_end {R Q V : Nat → Nat} {m K sh N M : Nat} (hsh : sh ≤ 31) (hL : Left R Q V (m + 2) K 0 (N * 2 ^ sh)) (hv : val V (m + 2) = M * 2 ^ sh) (hv0 : 0 < val V (m + 2)) :
    Norm Q (trimN Q K) (N / M) ∧ Norm (ext (trimN R (m + 2)) (dnD R sh)) (trimN (dnD R sh) (trimN R (m + 2))) (N % M) := by
  have hD : 0 < 2 ^ sh := Nat.pos_of_ne_zero (by simp)
  have hs := hL.sum
  have hl := hL.less
  rw [hv, Nat.zero_add] at hs
  rw [hv, Nat.zero_add, Nat.pow_zero, Nat.mul_one] at hl
  have hM : 0 < M := by
    apply Decidable.byContradiction
    intro hn
    have : M = 0 := by omega
    rw [hv, this, Nat.zero_mul] at hv0
    omega
  have e1 : M * 2 ^ sh * val Q K = M * val Q K * 2 ^ sh := Nat.mul_right_comm _ _ _
  rw [e1] at hs
  have hle : M * val Q K ≤ N := by
    apply Decidable.byContradiction
    intro hn
    have : (N + 1) * 2 ^ sh ≤ M * val Q K * 2 ^ sh := Nat.mul_le_mul_right _ (by omega)
    rw [Nat.add_mul] at this
    omega
  obtain ⟨r, hr⟩ : ∃ r, N = M * val Q K + r := ⟨N - M * val Q K, by omega⟩
  have hR : val R (m + 2) = r * 2 ^ sh := by
    rw [hr, Nat.add_mul] at hs
    omega
  have hrM : r < M := by
    rw [hR] at hl
    exact Nat.lt_of_mul_lt_mul_right hl
  have hq : N / M = val Q K := by
    rw [hr, Nat.add_comm, Nat.add_mul_div_left _ _ hM, Nat.div_eq_of_lt hrM, Nat.zero_add]
  have hm : N % M = r := by
    rw [hr, Nat.add_comm, Nat.add_mul_mod_self_left, Nat.mod_eq_of_lt hrM]
  refine ⟨⟨hL.qlt, ?_, trimN_top _ _, by rw [val_trim, hq]⟩, ⟨?_, ?_, ?_, ?_⟩⟩
  · intro i hi
    by_cases hx : i < K
    · exact trimN_zero _ _ i hi hx
    · exact hL.high i (by omega)
  · intro i
    unfold ext
    split
    · exact Nat.mod_lt _ (by decide)
    · omega
  · intro i hi
    unfold ext
    split
    · exact trimN_zero _ _ i hi (by assumption)
    · rfl
  · intro h
    have hle2 := trimN_le (dnD R sh) (trimN R (m + 2))
    rw [ext_of_lt _ (by omega)]
    exact trimN_top _ _ h
  · rw [hm]
    have hle2 := trimN_le (dnD R sh) (trimN R (m + 2))
    have hle3 := trimN_le R (m + 2)
    rw [val_congr (g := dnD R sh) (fun i hi => ext_of_lt _ (by omega)), val_trim, val_dn hL.lt sh hsh]
    have hz : R (trimN R (m + 2)) = 0 := by
      by_cases hx : trimN R (m + 2) < m + 2
      · exact trimN_zero _ _ _ (Nat.le_refl _) hx
      · exact hL.zero _ (by omega)
    rw [val_one, hz, Nat.zero_mul, Nat.add_zero, val_trim, hR, Nat.mul_div_cancel _ hD]
    apply Nat.mod_eq_of_lt
    have hb := val_lt hL.lt (trimN R (m + 2))
    rw [val_trim, hR] at hb
    exact Nat.lt_of_le_of_lt (Nat.le_mul_of_pos_right _ hD) hb

theorem wp_store63 {o : Oper} {a : Act} {w : World} {K : Act → World → Prop} {Q : Exit → Act → World → Prop} (x y : Operand) (g n k : Nat) (f f0 : Nat → Nat) (cs : Array Value)
    (hc : MagC cs n f) (hm : MagAt w g k f0) (ho : o.op = .store 63 x y) (hx : a.eval x = .pointer (some ⟨g, 0, none⟩)) (hy : a.eval y = .agg cs)
    (h : ∀ w', MagAt w' g n f → Only g w w' → K (a.put o.dst undef) w') : o.wp Try.prog a w K Q := by
  obtain ⟨old, h1, h2⟩ := hm
  refine wp_store_row 63 x y ho g cs hx hy 63 old h1 (by rw [hc.size]; exact Try.size63) (by rw [h2.size, hc.size]) hc.one ?_
  exact h _ ⟨cs, setRow_heap w g _ _ _ _ h1, hc⟩ (Only.setRow _ _ _)

theorem yields_load63 {ops : Array Oper} {S : World → Prop} {o : Oper} {a : Act} (hw : Region.wanted o (yielded ops a.tmps) = true) (x : Operand) (g n : Nat) (f : Nat → Nat) (cs : Array Value) (hc : MagC cs n f)
    (hS : ∀ w, S w → w.heap[g]? = some (.cells cs 63 (0, 0))) (ho : o.op = .load 63 x) (hx : a.eval x = .pointer (some ⟨g, 0, none⟩)) : YieldsIf Try.prog ops S o (.agg cs) a :=
  .inl ⟨hw, fun w hw' => by
    unfold execOp
    simp only [ho, hx, Instr.loadAt, Instr.sureAddr, Sem.run_bind, Sem.run_pure, Result.andThen_ok, run_loadVar_row w g 63 63 cs (0, 0) _ (hS w hw') Try.underlying63 rfl (by rw [hc.size]; exact Try.size63)]⟩

set_option maxHeartbeats 4000000 in
set_option maxRecDepth 100000 in
theorem long_any (cs cs' : Array Value) (nA m N M : Nat) (F G : Nat → Nat) (w : World) (hc : MagC cs nA F) (hc' : MagC cs' (m + 2) G) (hN : Norm F nA N) (hM : Norm G (m + 2) M) (hle : m + 2 ≤ nA) (hn : nA ≤ 40) :
    Calls Try.prog 92 #[.agg cs, .agg cs'] w fun e w' => ∃ qs rs nq nr fq fr, e = .returned (.tuple #[.agg qs, .agg rs]) ∧ MagC qs nq fq ∧ Norm fq nq (N / M) ∧ MagC rs nr fr ∧ Norm fr nr (N % M) ∧ Below w.heap.size w w' := by
  have HN := show Hid _ from hN
  have HM := show Hid _ from hM
  have hGl := hM.lt (m + 1)
  have hGp : 0 < G (m + 1) := Nat.pos_of_ne_zero (hM.top (by omega))
  go_enter Try.func92, Try.ntmps92
  go_upto_region 1 with (first
    | ((with_reducible refine wpList_alloc63 4 ?_ ?_ ?_ ?_); rfl; rfl; rfl; intro w1 hz1 hm1 hb1; simp only [World.size_alloc] at hz1 hm1 hb1)
    | ((with_reducible refine wpList_alloc63 5 ?_ ?_ ?_ ?_); rfl; rfl; rfl; intro w2 hz2 hm2 hb2; rw [hz1] at hz2 hm2 hb2))
  have ma : MagAt w2 w.heap.size nA F := ((((show MagAt (w.alloc (.cells cs 63)) w.heap.size nA F from ⟨cs, heap_alloc_new _ _, hc⟩).below (below_alloc1 _ _) (by simp)).below hb1 (by omega)).below hb2 (by omega))
  have mb : MagAt w2 (w.heap.size + 1) (m + 2) G := ((show MagAt ((w.alloc (.cells cs 63)).alloc (.cells cs' 63)) (w.heap.size + 1) (m + 2) G from ⟨cs', by rw [show w.heap.size + 1 = (w.alloc (.cells cs 63)).heap.size from by simp]; exact heap_alloc_new _ _, hc'⟩).below hb1 (by omega)).below hb2 (by omega)
  have mr1 : MagAt w2 (w.heap.size + 1 + 1) 0 (fun _ => 0) := hm1.below hb2 (by omega)
  have bel2 : Below w.heap.size w w2 := ((below_alloc2 w _ _).trans (hb1.mono (by omega))).trans (hb2.mono (by omega))
  have mr2 := hm2
  have e1 := mb.count
  have e2 := mb.limb (m + 1) (by omega)
  have zz2 : w.heap.size + 1 + 1 + 1 < w2.heap.size := by omega
  clear hb1 hb2 hm1 hm2 hc hc' hN hM
  go_wp2_with fail
  refine (zeros_any (G (m + 1)) _ hGp hGl).mono ?_
  rintro e w' ⟨sh, rfl, hsh, t1, t2, rfl⟩
  have HT := show Hid _ from up_divisor hsh HM.out.lt t1 t2 (HM.out.zero _ (Nat.le_refl _))
  clear t1 t2
  go_wp2_with fail
  refine (up_any w.heap.size nA sh F _ ma (by omega) hsh HN.out.lt (HN.out.zero _ (Nat.le_refl _))).mono ?_
  rintro e w3 ⟨us, rfl, hus, hb3⟩
  go_wp2_with fail
  refine (up_any (w.heap.size + 1) (m + 2) sh G _ (mb.below hb3 (by omega)) (by omega) hsh HM.out.lt (HM.out.zero _ (Nat.le_refl _))).mono ?_
  rintro e w4 ⟨vs, rfl, hvs, hb4⟩
  have y3 := hb3.size
  have y4 := hb4.size
  have hb34 := hb3.trans (hb4.mono y3)
  replace ma := ma.below hb34 (by omega)
  replace mb := mb.below hb34 (by omega)
  replace mr1 := mr1.below hb34 (by omega)
  replace mr2 := mr2.below hb34 (by omega)
  have bel4 := bel2.trans (hb34.mono (by omega))
  clear hb3 hb4 hb34 bel2 e1 e2
  go_upto_region 4 with (first
    | ((with_reducible refine wpList_alloc63 7 ?_ ?_ ?_ ?_); rfl; rfl; rfl; intro w5 hz5 hm5 hb5)
    | ((with_reducible refine wpList_alloc63 8 ?_ ?_ ?_ ?_); rfl; rfl; rfl; intro w6 hz6 hm6 hb6; rw [hz5] at hz6 hm6 hb6)
    | ((with_reducible refine wpList_store63 (.tmp 7) (.tmp 20) w4.heap.size _ 0 _ (fun _ => 0) us hus (hm5.below hb6 (by omega)) ?_ ?_ ?_ ?_ ?_); rfl; rfl; rfl; rfl; intro w7 hm7 ho7; have hm67 := hm6.only ho7 (Nat.succ_ne_self _))
    | ((with_reducible refine wpList_store63 (.tmp 8) (.tmp 22) (w4.heap.size + 1) _ 0 _ (fun _ => 0) vs hvs hm67 ?_ ?_ ?_ ?_ ?_); rfl; rfl; (first | rfl | (rw [← hz5]; rfl)); rfl; intro w8 hm8 ho8)
    | ((with_reducible refine wpList_alloc63 9 ?_ ?_ ?_ ?_); rfl; rfl; rfl; intro w9 hz9 hm9 hb9))
  have z8 : w8.heap.size = w4.heap.size + 1 + 1 := by rw [ho8.size, ho7.size, hz6]
  rw [z8] at hz9 hm9 hb9
  rw [hz5, z8]
  have hb49 : Below w4.heap.size w4 w9 := ((hb5.trans (hb6.mono (by omega))).trans ((ho7.below (Nat.le_refl _)).trans (ho8.below (by omega)))).trans (hb9.mono (by omega))
  have mrest : MagAt w9 w4.heap.size _ _ := (hm7.only ho8 (by omega)).below hb9 (by omega)
  have mdiv : MagAt w9 (w4.heap.size + 1) _ _ := hm8.below hb9 (by omega)
  rw [show m + 2 + 1 = m + 3 from rfl, HT.out.2.2.2.1] at mdiv
  replace ma := ma.below hb49 (by omega)
  replace mb := mb.below hb49 (by omega)
  replace mr1 := mr1.below hb49 (by omega)
  replace mr2 := mr2.below hb49 (by omega)
  have bel9 := bel4.trans (hb49.mono (by omega))
  clear hb5 hb6 hb9 hb49 hm5 hm6 hm67 hm7 hm8 ho7 ho8 hz5 hz6 z8 bel4 hus hvs
  have e1 := ma.count
  have e2 := mb.count
  obtain ⟨V, hV⟩ : ∃ V, V = ext (m + 3) (scD G (2 ^ sh) 0) := ⟨_, rfl⟩
  obtain ⟨R0, hR0⟩ : ∃ R0, R0 = ext (nA + 1) (scD F (2 ^ sh) 0) := ⟨_, rfl⟩
  rw [← hV] at mdiv
  rw [← hR0] at mrest
  have HV := show Hid _ from hV
  have HR0 := show Hid _ from hR0
  clear hV hR0
  generalize w4.heap.size = br at *
  go_wp2_with fail
  have HS := show Hid _ from left_start HN.out HM.out hle HT.out.2.2.2.2 HR0.out HV.out hsh
  have HVf := show Hid _ from divisor_facts HM.out HT.out HV.out
  have KK : Hid (((nA - m - 1 : Nat) : Int) - 1 = (nA : Int) - ((m : Int) + 2)) := by unfold Hid; omega
  go_loopw [10, 11] (fun s10 _ wr => ∃ (t : Nat) (R Q : Nat → Nat) (cR : Nat), s10 = .int .i64 ((t : Int) - 1) ∧ t ≤ nA - m - 1 ∧ Left R Q V (m + 2) (nA - m - 1) t (N * 2 ^ sh) ∧ MagAt wr br cR R ∧ MagAt wr (br + 1) (m + 2) V ∧ MagAt wr (br + 1 + 1) 0 Q ∧ MagAt wr w.heap.size nA F ∧ MagAt wr (w.heap.size + 1) (m + 2) G ∧ MagAt wr (w.heap.size + 1 + 1) 0 (fun _ => 0) ∧ MagAt wr (w.heap.size + 1 + 1 + 1) 0 (fun _ => 0) ∧ Below w.heap.size w wr) (fun s10 _ _ => (intOf s10 + 1).toNat)
  case atStart => exact ⟨nA - m - 1, R0, fun _ => 0, _, by rw [KK.out], Nat.le_refl _, HS.out, mrest, mdiv, hm9, ma, mb, mr1, mr2, bel9⟩
  case round =>
    obtain ⟨t, R, Q, cR, rfl, ht, hL, hR, hD, hQ, hA, hB, h1, h2, bel'⟩ := hrel
    clear ma mb mr1 mr2 bel9 mrest mdiv hm9 e1 e2
    rcases Nat.eq_zero_or_pos t with h0 | hp
    · subst h0
      have HL := show Hid _ from hL
      clear hL ht
      have e1 := hA.count
      have e2 := hB.count
      have eK : (nA : Int) - ((m : Int) + 2) + 1 = ((nA - m - 1 : Nat) : Int) := by omega
      go_wp2_with fail

      refine (setCount_at (br + 1 + 1) (nA - m - 1) _ _ _ hQ (by omega)).mono ?_
      rintro e w6 ⟨rfl, hQ6, ho6⟩
      have hR6 := hR.only ho6 (by omega)
      have hB6 := hB.only ho6 (by omega)
      have h16 := h1.only ho6 (by omega)
      have h26 := h2.only ho6 (by omega)
      have bel6 := bel'.trans (ho6.below (by omega))
      have e3 := hB6.count
      clear hR hD hQ hA hB h1 h2 bel' ho6 e1 e2 eK
      go_wp2_with fail
      refine (setCount_at br (m + 2) _ _ _ hR6 (by omega)).mono ?_
      rintro e w7 ⟨rfl, hR7, ho7⟩
      have hQ7 := hQ6.only ho7 (by omega)
      have h17 := h16.only ho7 (by omega)
      have h27 := h26.only ho7 (by omega)
      have bel7 := bel6.trans (ho7.below (by omega))
      clear hR6 hQ6 hB6 h16 h26 bel6 ho7 e3
      go_upto_region 14 with fail
      obtain ⟨qs, hq1, hq2⟩ := hQ7
      have z7 := bel7.size
      have zb := hR7.lt
      refine wp_region_held_drew (S := (fun w' => w'.heap[br + 1 + 1]? = some (.cells qs 63 (0, 0)) ∧ MagAt w' br (trimN R (m + 2)) R ∧ (∃ n f, MagAt w' (w.heap.size + 1 + 1) n f) ∧ (∃ n f, MagAt w' (w.heap.size + 1 + 1 + 1) n f) ∧ Below w.heap.size w w')) (by kernel_rfl) ⟨hq1, hR7, ⟨_, _, h17⟩, ⟨_, _, h27⟩, bel7.drew⟩ (fun hHeld => ?_)
      refine' wpAnyH_take (i := 0) (oi := { dst := some 55, op := Go.Op.load 63 (Go.Operand.tmp 9), type := 63, pos := "l1_big.go:326", after := #[], guard := none }) (v := _) rfl (by kernel_rfl) (by kernel_rfl) (by kernel_rfl) (fun _ _ _ h => h) (yields_load63 (by rfl) (.tmp 9) (br + 1 + 1) (trimN Q (nA - m - 1)) Q qs hq2 (fun _ h => h.1) rfl rfl) (by assumption) ?r0
      try simp only [Act.put, List.setIfInBounds_toArray, List.set_cons_succ]
      refine' wpAnyH_take (i := 1) (oi := { dst := some 56, op := Go.Op.move (Go.Operand.tmp 6), type := 3, pos := "l1_big.go:326", after := #[], guard := none }) (v := _) rfl (by kernel_rfl) (by kernel_rfl) (by kernel_rfl) (fun _ _ _ h => h) (Or.inl ⟨by rfl, ?y1⟩) (by assumption) ?r1
      case y1 => (intro w hSw; (try dsimp only at hSw); go_simp; (try with_reducible rfl))
      try simp only [Act.put, List.setIfInBounds_toArray, List.set_cons_succ]
      refine wpAnyH_ready (rs := [2]) (by kernel_rfl) (by simp) ?_
      refine AllReadyH.cons (o := { dst := some 57, op := Go.Op.call { callee := Go.Callee.value (Go.Operand.func 100), args := #[Go.Operand.tmp 7, Go.Operand.tmp 56], argTypes := #[63, 3] }, type := 63, pos := "l1_big.go:326", after := #[{ on := 1, ground := Go.Ground.data }], guard := none }) rfl (fun K hK => ?_) AllReadyH.nil
      go_simp
      have hqlt : br + 1 + 1 < w7.heap.size := MagAt.lt ⟨qs, hq1, hq2⟩
      have hR7d : MagAt w7.drew br (trimN R (m + 2)) R := hR7
      have htl := trimN_le R (m + 2)
      refine (down_any br (trimN R (m + 2)) sh R _ hR7d (by omega) hsh HL.out.lt).mono ?_
      rintro e w8 ⟨rs, rfl, hrs, hb8⟩
      have hb78 : Below w7.heap.size w7 w8 := ⟨hb8.os, hb8.tape, hb8.output, hb8.size, hb8.block⟩
      have hq8 : w8.heap[br + 1 + 1]? = some (.cells qs 63 (0, 0)) := (hb78.block _ hqlt).trans hq1
      have hR8 := hR7.below hb78 hR7.lt
      have h18 := h17.below hb78 h17.lt
      have h28 := h27.below hb78 h27.lt
      have bel8 := bel7.trans (hb78.mono z7)
      go_wp2_with fail
      refine hK.out _ _ ⟨hq8, hR8, ⟨_, _, h18⟩, ⟨_, _, h28⟩, bel8⟩ (fun hHeld2 => ?_)
      clear hK K
      try simp only [Act.put, List.setIfInBounds_toArray, List.set_cons_succ]
      refine wpAnyH_ready (rs := [3]) (by kernel_rfl) (by simp) ?_
      refine AllReadyH.cons (o := { dst := none, op := Go.Op.store 63 (Go.Operand.tmp 4) (Go.Operand.tmp 55), type := 0, pos := "l1_big.go:326", after := #[{ on := 0, ground := Go.Ground.data }, { on := 2, ground := Go.Ground.chain }, { on := 0, ground := Go.Ground.phase }, { on := 1, ground := Go.Ground.textOnly Go.Departure.lateStores }, { on := 2, ground := Go.Ground.textOnly Go.Departure.lateStoresUnsure }], guard := none }) rfl (fun K hK => ?_) AllReadyH.nil
      rw [if_pos (by rfl)]
      refine wp_store63 (.tmp 4) (.tmp 55) (w.heap.size + 1 + 1) _ _ _ _ qs hq2 h18 rfl rfl rfl ?_
      intro w9 h19 ho9
      have hq9 : w9.heap[br + 1 + 1]? = some (.cells qs 63 (0, 0)) := (ho9.block _ (by omega)).trans hq8
      have hR9 := hR8.only ho9 (by omega)
      have h29 := h28.only ho9 (by omega)
      have bel10 := bel8.trans (ho9.below (by omega))
      refine hK.out _ _ ⟨hq9, hR9, ⟨_, _, h19⟩, ⟨_, _, h29⟩, bel10⟩ (fun hHeld3 => ?_)
      clear hK K
      try simp only [Act.put]
      refine wpAnyH_ready (rs := [4]) (by kernel_rfl) (by simp) ?_
      refine AllReadyH.cons (o := { dst := none, op := Go.Op.store 63 (Go.Operand.tmp 5) (Go.Operand.tmp 57), type := 0, pos := "l1_big.go:326", after := #[{ on := 2, ground := Go.Ground.data }, { on := 3, ground := Go.Ground.chain }, { on := 0, ground := Go.Ground.phase }, { on := 1, ground := Go.Ground.phase }, { on := 2, ground := Go.Ground.phase }, { on := 3, ground := Go.Ground.phase }], guard := none }) rfl (fun K hK => ?_) AllReadyH.nil
      rw [if_pos (by rfl)]
      refine wp_store63 (.tmp 5) (.tmp 57) (w.heap.size + 1 + 1 + 1) _ _ _ _ rs hrs h29 rfl rfl rfl ?_
      intro w10 h210 ho10
      have hq10 : w10.heap[br + 1 + 1]? = some (.cells qs 63 (0, 0)) := (ho10.block _ (by omega)).trans hq9
      have hR10 := hR9.only ho10 (by omega)
      have h110 := h19.only ho10 (by omega)
      have bel11 := bel10.trans (ho10.below (by omega))
      refine hK.out _ _ ⟨hq10, hR10, ⟨_, _, h110⟩, ⟨_, _, h210⟩, bel11⟩ (fun hHeld4 => ?_)
      clear hK K
      try simp only [Act.put]
      refine wpAnyH_done (by kernel_rfl) ?_ _
      go_wp2_with fail
      obtain ⟨qs', p1, p2⟩ := h110
      obtain ⟨rs', p3, p4⟩ := h210
      obtain ⟨n1, n2⟩ := long_end hsh HL.out HVf.out.2.2.2.1 HVf.out.2.2.2.2.1
      refine bodyPost_ret (v := .tuple #[.agg qs', .agg rs']) (results2_63 rfl _ _ (w.heap.size + 1 + 1) (w.heap.size + 1 + 1 + 1) _ _ _ _ qs' rs' (by simp) (by simp) p1 p3 p2 p4) rfl ⟨qs', rs', _, _, _, _, rfl, p2, n1, p4, n2, bel11⟩
    · obtain ⟨a, rfl⟩ : ∃ a, t = a + 1 := ⟨t - 1, by omega⟩
      have HP := show Hid _ from hL.part
      have HL := show Hid _ from hL
      have hu := top_le HP.out.2 HL.out.lt HVf.out.1
      clear hL
      have ea : ((a + 1 : Nat) : Int) - 1 = (a : Int) := by omega
      rw [ea]
      go_wp2_with fail
      refine (guess_any br (br + 1) cR m a R V _ hR hD (by omega) HL.out.lt HVf.out.1 HVf.out.2.2.1 hu).mono ?_
      rintro e w' ⟨rfl, q1, rfl⟩
      obtain ⟨g, hg⟩ : ∃ g, g = guessG ((R (a + (m + 2)) * 4294967296 + R (a + m + 1)) * 4294967296 + R (a + m)) (V (m + 1) * 4294967296 + V m) := ⟨_, rfl⟩
      rw [← hg]
      have HK := show Hid _ from took (M := fromAt R a) (fun i => HL.out.lt (a + i)) HVf.out.1 HVf.out.2.1 HVf.out.2.2.1 HP.out.2 g hg
      have hgl : g < 4294967296 := by rw [hg]; exact guessG_lt _ _
      clear hg hu
      have hR' : MagAt (wr.drewN q1) br cR R := hR
      have hD' : MagAt (wr.drewN q1) (br + 1) (m + 2) V := hD
      have hQ' : MagAt (wr.drewN q1) (br + 1 + 1) 0 Q := hQ
      have hA' : MagAt (wr.drewN q1) w.heap.size nA F := hA
      have hB' : MagAt (wr.drewN q1) (w.heap.size + 1) (m + 2) G := hB
      have h1' : MagAt (wr.drewN q1) (w.heap.size + 1 + 1) 0 (fun _ => 0) := h1
      have h2' : MagAt (wr.drewN q1) (w.heap.size + 1 + 1 + 1) 0 (fun _ => 0) := h2
      have bel2 : Below w.heap.size w (wr.drewN q1) := bel'.trans ⟨rfl, rfl, rfl, Nat.le_refl _, fun _ _ => rfl⟩
      clear hR hD hQ hA hB h1 h2 bel'
      generalize wr.drewN q1 = w5' at *
      go_wp2_with fail
      refine (take_any br (br + 1) cR (m + 2) a g R V _ hR' hD' (by omega) (by omega) hgl HL.out.lt HVf.out.1).mono ?_
      rintro e w6 ⟨rfl, hm6, ho6⟩
      have hD6 := hD'.only ho6 (by omega)
      have hQ6 := hQ'.only ho6 (by omega)
      have hA6 := hA'.only ho6 (by omega)
      have hB6 := hB'.only ho6 (by omega)
      have h16 := h1'.only ho6 (by omega)
      have h26 := h2'.only ho6 (by omega)
      have bel6 := bel2.trans (ho6.below (by omega))
      clear hR' hD' hQ' hA' hB' h1' h2' bel2 ho6
      rcases HK.out with ⟨k0, k1, k2⟩ | ⟨k0, kp, k1, k2⟩
      · rw [k0]
        have HL2 := show Hid _ from HL.out.round HVf.out.2.2.2.2.1 HVf.out.2.2.2.2.2 (by omega) (fun i => Nat.mod_lt _ (by decide)) k2
        rw [← k1] at HL2
        clear k0 k1 k2 HK
        have Q1 := hQ6.limb a (by omega)
        have Q2 := hQ6.frozen a
        go_wp2_with fail
        have hox : ∀ u, Only (br + 1 + 1) w6 (w6.setCell ⟨br + 1 + 1, a, none⟩ u) := fun u => Only.setCell w6 ⟨br + 1 + 1, a, none⟩ u
        go_roundw
        case rel => exact ⟨a, _, _, cR, rfl, by omega, HL2.out, hm6.only (hox _) (by omega), hD6.only (hox _) (by omega), hQ6.setLimb a _ (by omega), hA6.only (hox _) (by omega), hB6.only (hox _) (by omega), h16.only (hox _) (by omega), h26.only (hox _) (by omega), bel6.trans ((hox _).below (by omega))⟩
        case measure => simp [intOf]
      · rw [k0]
        have hsl : ∀ i, put R (subD (fromAt R a) (scD V g 0)) a (m + 2 + 1) i < 4294967296 := by
          intro i
          unfold put
          split
          · exact Nat.mod_lt _ (by decide)
          · exact HL.out.lt i
        have HSL := show Hid _ from hsl
        have HL2 := show Hid _ from HL.out.round HVf.out.2.2.2.2.1 HVf.out.2.2.2.2.2 (by omega) (fun i => Nat.mod_lt _ (by decide)) k2
        rw [← k1] at HL2
        have hgp : Hid (((g - 1 : Nat) : Int) = (g : Int) - 1) := by unfold Hid; omega
        have hgi : 1 ≤ g := kp
        clear k0 k1 k2 HK kp hsl
        go_wp2_with fail
        refine (give_any br (br + 1) cR (m + 2) a _ V _ hm6 hD6 (by omega) (by omega) HSL.out HVf.out.1).mono ?_
        rintro e w7 ⟨rfl, hm7, ho7⟩
        rw [put_put, put_congr (X' := addD (subD (fromAt R a) (scD V g 0)) V) (fun i hi => addD_congr (k := m + 2 + 1) (fun j hj => put_from _ _ _ _ _ hj) i hi)] at hm7
        have hD7 := hD6.only ho7 (by omega)
        have hQ7 := hQ6.only ho7 (by omega)
        have hA7 := hA6.only ho7 (by omega)
        have hB7 := hB6.only ho7 (by omega)
        have h17 := h16.only ho7 (by omega)
        have h27 := h26.only ho7 (by omega)
        have bel7 := bel6.trans (ho7.below (by omega))
        clear hm6 hD6 hQ6 hA6 hB6 h16 h26 bel6 ho7
        have Q1 := hQ7.limb a (by omega)
        have Q2 := hQ7.frozen a
        go_wp2_with fail
        rw [← hgp.out]
        have hox : ∀ u, Only (br + 1 + 1) w7 (w7.setCell ⟨br + 1 + 1, a, none⟩ u) := fun u => Only.setCell w7 ⟨br + 1 + 1, a, none⟩ u
        go_roundw
        case rel => exact ⟨a, _, _, cR, rfl, by omega, HL2.out, hm7.only (hox _) (by omega), hD7.only (hox _) (by omega), hQ7.setLimb a _ (by omega), hA7.only (hox _) (by omega), hB7.only (hox _) (by omega), h17.only (hox _) (by omega), h27.only (hox _) (by omega), bel7.trans ((hox _).below (by omega))⟩
        case measure => simp [intOf]

end Go.Proofs.Ytpcnmolncoaddaa

namespace Go.Proofs.Ytpcnmolncoaddaa
open Go.RowKit Go.Joins

set_option maxHeartbeats 4000000 in
set_option maxRecDepth 100000 in
theorem sizes_long (cs cs' : Array Value) (nA m N M : Nat) (F G : Nat → Nat) (w : World) (hc : MagC cs nA F) (hc' : MagC cs' (m + 2) G) (hN : Norm F nA N) (hM : Norm G (m + 2) M) (hle : m + 2 ≤ nA) (hn : nA ≤ 40) :
    Calls Try.prog 62 #[.agg cs, .agg cs'] w fun e w' => ∃ qs rs nq nr fq fr, e = .returned (.tuple #[.agg qs, .agg rs]) ∧ MagC qs nq fq ∧ Norm fq nq (N / M) ∧ MagC rs nr fr ∧ Norm fr nr (N % M) ∧ Below w.heap.size w w' := by
  have HN := show Hid _ from hN
  have HM := show Hid _ from hM
  go_enter Try.func62, Try.ntmps62
  go_upto_region 1 with (first
    | ((with_reducible refine wpList_alloc63 4 ?_ ?_ ?_ ?_); rfl; rfl; rfl; intro w1 hz1 hm1 hb1; simp only [World.size_alloc] at hz1 hm1 hb1)
    | ((with_reducible refine wpList_alloc63 5 ?_ ?_ ?_ ?_); rfl; rfl; rfl; intro w2 hz2 hm2 hb2; rw [hz1] at hz2 hm2 hb2))
  have ma : MagAt w2 w.heap.size nA F := ((((show MagAt (w.alloc (.cells cs 63)) w.heap.size nA F from ⟨cs, heap_alloc_new _ _, hc⟩).below (below_alloc1 _ _) (by simp)).below hb1 (by omega)).below hb2 (by omega))
  have mb : MagAt w2 (w.heap.size + 1) (m + 2) G := ((show MagAt ((w.alloc (.cells cs 63)).alloc (.cells cs' 63)) (w.heap.size + 1) (m + 2) G from ⟨cs', by rw [show w.heap.size + 1 = (w.alloc (.cells cs 63)).heap.size from by simp]; exact heap_alloc_new _ _, hc'⟩).below hb1 (by omega)).below hb2 (by omega)
  have mr1 : MagAt w2 (w.heap.size + 1 + 1) 0 (fun _ => 0) := hm1.below hb2 (by omega)
  have bel2 : Below w.heap.size w w2 := ((below_alloc2 w _ _).trans (hb1.mono (by omega))).trans (hb2.mono (by omega))
  have mr2 := hm2
  have e0 := ma.count
  have e1 := mb.count
  have zz2 : w.heap.size + 1 + 1 + 1 < w2.heap.size := by omega
  have t1 : decide ((nA : Int) < (m : Int) + 2) = false := by simp; omega
  have t2 : ((m : Int) + 2 == 1) = false := by simp; omega
  clear hb1 hb2 hm1 hm2 hc hc' hN hM
  go_upto_region 8 with fail
  go_wp2_with (first
    | ((with_reducible refine wpList_load63 (.tmp 2) w.heap.size _ _ ma ?_ ?_ ?_ ?_); rfl; rfl; rfl; intro as1 has1)
    | ((with_reducible refine wpList_load63 (.tmp 3) (w.heap.size + 1) _ _ mb ?_ ?_ ?_ ?_); rfl; rfl; rfl; intro bs1 hbs1))
  refine (long_any as1 bs1 nA m N M F G _ has1 hbs1 HN.out HM.out hle hn).mono ?_
  rintro e w3 ⟨qs, rs, nq, nr, fq, fr, rfl, hq, nQ, hr, nR, hb3⟩
  have mr1' := mr1.below hb3 (by omega)
  have mr2' := mr2.below hb3 (by omega)
  have bel3 := bel2.trans (hb3.mono bel2.size)
  clear mr1 mr2 ma mb e0 e1
  go_wp2_with (first
    | ((with_reducible refine wpList_store63 (.tmp 4) (.tmp 29) (w.heap.size + 1 + 1) _ 0 _ (fun _ => 0) qs hq mr1' ?_ ?_ ?_ ?_ ?_); rfl; rfl; rfl; rfl; intro w4 hm4 ho4; have mr24 := mr2'.only ho4 (Nat.succ_ne_self _))
    | ((with_reducible refine wpList_store63 (.tmp 5) (.tmp 30) (w.heap.size + 1 + 1 + 1) _ 0 _ (fun _ => 0) rs hr mr24 ?_ ?_ ?_ ?_ ?_); rfl; rfl; rfl; rfl; intro w5 hm5 ho5))
  have hm45 := hm4.only ho5 (by omega)
  have bel5 := (bel3.trans (ho4.below (by omega))).trans (ho5.below (by omega))
  obtain ⟨qs', p1, p2⟩ := hm45
  obtain ⟨rs', p3, p4⟩ := hm5
  refine bodyPost_ret (v := .tuple #[.agg qs', .agg rs']) (results2_63 rfl _ _ (w.heap.size + 1 + 1) (w.heap.size + 1 + 1 + 1) _ _ _ _ qs' rs' (by simp [Act.put]) (by simp [Act.put]) p1 p3 p2 p4) rfl ⟨qs', rs', _, _, _, _, rfl, p2, nQ, p4, nR, bel5⟩

theorem less_parts {F G : Nat → Nat} {nA n N M : Nat} (hN : Norm F nA N) (hM : Norm G n M) (hlt : nA < n) : Norm (fun _ => 0) 0 (N / M) ∧ Norm F nA (N % M) := by
  have h1 := val_lt hN.lt nA
  rw [hN.val] at h1
  obtain ⟨j, rfl⟩ : ∃ j, n = j + 1 := ⟨n - 1, by omega⟩
  have h2 := val_top (hM.top (by omega))
  rw [show j + 1 - 1 = j from rfl, hM.val] at h2
  have h3 : 4294967296 ^ nA ≤ 4294967296 ^ j := Nat.pow_le_pow_right (by decide) (by omega)
  have h4 : N < M := by omega
  rw [Nat.div_eq_of_lt h4, Nat.mod_eq_of_lt h4]
  exact ⟨Norm.nil, hN⟩

set_option maxHeartbeats 4000000 in
set_option maxRecDepth 100000 in
theorem sizes_less (cs cs' : Array Value) (nA n N M : Nat) (F G : Nat → Nat) (w : World) (hc : MagC cs nA F) (hc' : MagC cs' n G) (hN : Norm F nA N) (hM : Norm G n M) (hlt : nA < n) (_hn : nA ≤ 40) :
    Calls Try.prog 62 #[.agg cs, .agg cs'] w fun e w' => ∃ qs rs nq nr fq fr, e = .returned (.tuple #[.agg qs, .agg rs]) ∧ MagC qs nq fq ∧ Norm fq nq (N / M) ∧ MagC rs nr fr ∧ Norm fr nr (N % M) ∧ Below w.heap.size w w' := by
  have HN := show Hid _ from hN
  have HM := show Hid _ from hM
  go_enter Try.func62, Try.ntmps62
  go_upto_region 1 with (first
    | ((with_reducible refine wpList_alloc63 4 ?_ ?_ ?_ ?_); rfl; rfl; rfl; intro w1 hz1 hm1 hb1; simp only [World.size_alloc] at hz1 hm1 hb1)
    | ((with_reducible refine wpList_alloc63 5 ?_ ?_ ?_ ?_); rfl; rfl; rfl; intro w2 hz2 hm2 hb2; rw [hz1] at hz2 hm2 hb2))
  have ma : MagAt w2 w.heap.size nA F := ((((show MagAt (w.alloc (.cells cs 63)) w.heap.size nA F from ⟨cs, heap_alloc_new _ _, hc⟩).below (below_alloc1 _ _) (by simp)).below hb1 (by omega)).below hb2 (by omega))
  have mb : MagAt w2 (w.heap.size + 1) (n) G := ((show MagAt ((w.alloc (.cells cs 63)).alloc (.cells cs' 63)) (w.heap.size + 1) (n) G from ⟨cs', by rw [show w.heap.size + 1 = (w.alloc (.cells cs 63)).heap.size from by simp]; exact heap_alloc_new _ _, hc'⟩).below hb1 (by omega)).below hb2 (by omega)
  have mr1 : MagAt w2 (w.heap.size + 1 + 1) 0 (fun _ => 0) := hm1.below hb2 (by omega)
  have bel2 : Below w.heap.size w w2 := ((below_alloc2 w _ _).trans (hb1.mono (by omega))).trans (hb2.mono (by omega))
  have mr2 := hm2
  have e0 := ma.count
  have e1 := mb.count
  have zz2 : w.heap.size + 1 + 1 + 1 < w2.heap.size := by omega
  have t1 : decide ((nA : Int) < (n : Int)) = true := by simp; omega
  clear hb1 hb2 hm1 hm2 hc hc' hN hM
  go_upto_region 2 with fail
  obtain ⟨as1, ha1, ha2⟩ := ma
  have hz := less_parts HN.out HM.out hlt
  refine wp_region_held_drew (S := (fun w' => w'.heap[w.heap.size]? = some (.cells as1 63 (0, 0)) ∧ (∃ n f, MagAt w' (w.heap.size + 1 + 1) n f) ∧ (∃ n f, MagAt w' (w.heap.size + 1 + 1 + 1) n f) ∧ Below w.heap.size w w')) (by kernel_rfl) ⟨ha1, ⟨_, _, mr1⟩, ⟨_, _, mr2⟩, bel2.drew⟩ (fun hHeld => ?_)
  refine' wpAnyH_take (i := 0) (oi := { dst := some 12, op := Go.Op.build 63 #[], type := 63, pos := "l1_big.go:299", after := #[], guard := none }) (v := .agg zero63) rfl (by kernel_rfl) (by kernel_rfl) (by kernel_rfl) (fun _ _ _ h => h) (Or.inl ⟨by rfl, fun w _ => by kernel_rfl⟩) (by assumption) ?t0
  try simp only [Act.put, List.setIfInBounds_toArray, List.set_cons_succ]
  refine' wpAnyH_take (i := 1) (oi := { dst := some 13, op := Go.Op.load 63 (Go.Operand.tmp 2), type := 63, pos := "l1_big.go:299", after := #[{ on := 2, ground := Go.Ground.gcOnly Go.Departure.lateStores }], guard := none }) (v := _) rfl (by kernel_rfl) (by kernel_rfl) (by kernel_rfl) (fun _ _ _ h => h) (yields_load63 (by rfl) (.tmp 2) w.heap.size nA F as1 ha2 (fun _ h => h.1) rfl rfl) (by assumption) ?t1
  try simp only [Act.put, List.setIfInBounds_toArray, List.set_cons_succ]
  refine wpAnyH_ready (rs := [2]) (by kernel_rfl) (by simp) ?_
  refine AllReadyH.cons (o := { dst := none, op := Go.Op.store 63 (Go.Operand.tmp 4) (Go.Operand.tmp 12), type := 0, pos := "l1_big.go:299", after := #[{ on := 0, ground := Go.Ground.data }, { on := 0, ground := Go.Ground.phase }, { on := 1, ground := Go.Ground.textOnly Go.Departure.lateStores }], guard := none }) rfl (fun K hK => ?_) AllReadyH.nil
  rw [if_pos (by rfl)]
  refine wp_store63 (.tmp 4) (.tmp 12) (w.heap.size + 1 + 1) _ _ _ _ zero63 zero63_mag (show MagAt w2.drew _ _ _ from mr1) rfl rfl rfl ?_
  intro w9 h19 ho9
  have h29 := MagAt.only (show MagAt w2.drew _ _ _ from mr2) ho9 (by omega)
  have bel10 := Below.trans bel2.drew (ho9.below (by omega))
  refine hK.out _ _ ⟨(ho9.block _ (by omega)).trans ha1, ⟨_, _, h19⟩, ⟨_, _, h29⟩, bel10⟩ (fun hHeld3 => ?_)
  clear hK K
  try simp only [Act.put]
  refine wpAnyH_ready (rs := [3]) (by kernel_rfl) (by simp) ?_
  refine AllReadyH.cons (o := { dst := none, op := Go.Op.store 63 (Go.Operand.tmp 5) (Go.Operand.tmp 13), type := 0, pos := "l1_big.go:299", after := #[{ on := 1, ground := Go.Ground.data }, { on := 2, ground := Go.Ground.chain }, { on := 0, ground := Go.Ground.phase }, { on := 1, ground := Go.Ground.phase }, { on := 2, ground := Go.Ground.phase }], guard := none }) rfl (fun K hK => ?_) AllReadyH.nil
  rw [if_pos (by rfl)]
  refine wp_store63 (.tmp 5) (.tmp 13) (w.heap.size + 1 + 1 + 1) _ _ _ _ as1 ha2 h29 rfl rfl rfl ?_
  intro w10 h210 ho10
  have h110 := h19.only ho10 (by omega)
  have bel11 := bel10.trans (ho10.below (by omega))
  refine hK.out _ _ ⟨(ho10.block _ (by omega)).trans ((ho9.block _ (by omega)).trans ha1), ⟨_, _, h110⟩, ⟨_, _, h210⟩, bel11⟩ (fun hHeld4 => ?_)
  clear hK K
  try simp only [Act.put]
  refine wpAnyH_done (by kernel_rfl) ?_ _
  go_wp2_with fail
  obtain ⟨qs', p1, p2⟩ := h110
  obtain ⟨rs', p3, p4⟩ := h210
  refine bodyPost_ret (v := .tuple #[.agg qs', .agg rs']) (results2_63 rfl _ _ (w.heap.size + 1 + 1) (w.heap.size + 1 + 1 + 1) _ _ _ _ qs' rs' (by simp) (by simp) p1 p3 p2 p4) rfl ⟨qs', rs', _, _, _, _, rfl, p2, hz.1, p4, hz.2, bel11⟩

theorem one_parts {F G : Nat → Nat} {nA N M : Nat} (hN : Norm F nA N) (hM : Norm G 1 M) :
    Norm (ext nA (dq F (G 0) nA)) (trimN (dq F (G 0) nA) nA) (N / M) ∧ Norm (upd (fun _ => 0) 0 (dr F (G 0) nA nA)) (trimN (upd (fun _ => 0) 0 (dr F (G 0) nA nA)) 1) (N % M) := by
  have hd : 0 < G 0 := Nat.pos_of_ne_zero (hM.top (by omega))
  have hMe : M = G 0 := by
    rw [← hM.val]
    show 0 + G 0 * 4294967296 ^ 0 = G 0
    rw [Nat.pow_zero]
    omega
  subst hMe
  obtain ⟨h1, h2⟩ := val_div (f := F) (n := nA) hd
  rw [hN.val] at h1 h2
  have hrl := dr_lt (f := F) (n := nA) hd nA
  have hgl := hM.lt 0
  refine ⟨⟨?_, ?_, ?_, ?_⟩, ⟨?_, ?_, trimN_top _ _, ?_⟩⟩
  · intro i
    unfold ext
    split
    · exact dq_lt hd hN.lt i
    · omega
  · intro i hi
    unfold ext
    split
    · exact trimN_zero _ _ i hi (by assumption)
    · rfl
  · intro h
    have := trimN_le (dq F (G 0) nA) nA
    rw [ext_of_lt _ (by omega)]
    exact trimN_top _ _ h
  · have := trimN_le (dq F (G 0) nA) nA
    rw [val_congr (g := dq F (G 0) nA) (fun i hi => ext_of_lt _ (by omega)), val_trim, h1]
  · intro i
    simp only [upd]
    split <;> omega
  · intro i hi
    by_cases hx : i < 1
    · exact trimN_zero _ _ i hi hx
    · unfold upd
      rw [if_neg (by omega)]
  · rw [val_trim, ← h2]
    show 0 + upd (fun _ => 0) 0 (dr F (G 0) nA nA) 0 * 4294967296 ^ 0 = _
    rw [Nat.pow_zero]
    simp [upd]

set_option maxHeartbeats 4000000 in
set_option maxRecDepth 100000 in
theorem sizes_one (cs cs' : Array Value) (nA N M : Nat) (F G : Nat → Nat) (w : World) (hc : MagC cs nA F) (hc' : MagC cs' 1 G) (hN : Norm F nA N) (hM : Norm G 1 M) (hlt : 0 < nA) (hn : nA ≤ 40) :
    Calls Try.prog 62 #[.agg cs, .agg cs'] w fun e w' => ∃ qs rs nq nr fq fr, e = .returned (.tuple #[.agg qs, .agg rs]) ∧ MagC qs nq fq ∧ Norm fq nq (N / M) ∧ MagC rs nr fr ∧ Norm fr nr (N % M) ∧ Below w.heap.size w w' := by
  have HN := show Hid _ from hN
  have HM := show Hid _ from hM
  go_enter Try.func62, Try.ntmps62
  go_upto_region 1 with (first
    | ((with_reducible refine wpList_alloc63 4 ?_ ?_ ?_ ?_); rfl; rfl; rfl; intro w1 hz1 hm1 hb1; simp only [World.size_alloc] at hz1 hm1 hb1)
    | ((with_reducible refine wpList_alloc63 5 ?_ ?_ ?_ ?_); rfl; rfl; rfl; intro w2 hz2 hm2 hb2; rw [hz1] at hz2 hm2 hb2))
  have ma : MagAt w2 w.heap.size nA F := ((((show MagAt (w.alloc (.cells cs 63)) w.heap.size nA F from ⟨cs, heap_alloc_new _ _, hc⟩).below (below_alloc1 _ _) (by simp)).below hb1 (by omega)).below hb2 (by omega))
  have mb : MagAt w2 (w.heap.size + 1) 1 G := ((show MagAt ((w.alloc (.cells cs 63)).alloc (.cells cs' 63)) (w.heap.size + 1) 1 G from ⟨cs', by rw [show w.heap.size + 1 = (w.alloc (.cells cs 63)).heap.size from by simp]; exact heap_alloc_new _ _, hc'⟩).below hb1 (by omega)).below hb2 (by omega)
  have mr1 : MagAt w2 (w.heap.size + 1 + 1) 0 (fun _ => 0) := hm1.below hb2 (by omega)
  have bel2 : Below w.heap.size w w2 := ((below_alloc2 w _ _).trans (hb1.mono (by omega))).trans (hb2.mono (by omega))
  have mr2 := hm2
  have e0 := ma.count
  have e1 := mb.count
  have zz2 : w.heap.size + 1 + 1 + 1 < w2.heap.size := by omega
  have t1 : decide ((nA : Int) < 1) = false := by simp; omega
  have hG := HM.out.lt 0
  have hGp : 0 < G 0 := Nat.pos_of_ne_zero (HM.out.top (by omega))
  have e2 := mb.limb 0 (by omega)
  clear hb1 hb2 hm1 hm2 hc hc' hN hM
  go_wp2_with ((with_reducible refine wpList_alloc63 6 ?_ ?_ ?_ ?_); rfl; rfl; rfl; intro w3 hz3 hm3 hb3; rw [hz2] at hz3 hm3 hb3; have e2' := (mb.below hb3 (by omega)).limb 0 (by omega))
  have ma3 := ma.below hb3 (by omega)
  have mr13 := mr1.below hb3 (by omega)
  have mr23 := mr2.below hb3 (by omega)
  have bel3 := bel2.trans (hb3.mono (by omega))
  refine (divLimb_any w.heap.size nA (G 0) F _ ma3 (by omega) hGp hG HN.out.lt HN.out.zero).mono ?_
  rintro e w4 ⟨rfl, ha4, ho4⟩
  have hm4 := hm3.only ho4 (by omega)
  have mr14 := mr13.only ho4 (by omega)
  have mr24 := mr23.only ho4 (by omega)
  have bel4 := bel3.trans (ho4.below (Nat.le_refl _))
  clear ma mb mr1 mr2 bel2 ma3 mr13 mr23 bel3 hb3 hm3 ho4 e0 e1 e2 e2'
  have e5 := hm4.limb 0 (by omega)
  have e6 := hm4.frozen 0
  have hm5 := hm4.setLimb 0 (dr F (G 0) nA nA) (by omega)
  have ho5 : Only (w.heap.size + 1 + 1 + 1 + 1) w4 (w4.setCell ⟨(w.heap.size + 1 + 1 + 1 + 1), 0, none⟩ (.int .u32 (dr F (G 0) nA nA : Nat))) := Only.setCell w4 ⟨(w.heap.size + 1 + 1 + 1 + 1), 0, none⟩ _
  have ha5 := ha4.only ho5 (by omega)
  have mr15 := mr14.only ho5 (by omega)
  have mr25 := mr24.only ho5 (by omega)
  have bel5 := bel4.trans (ho5.below (by omega))
  clear ho5
  go_wp2_with fail
  refine (setCount_at (w.heap.size + 1 + 1 + 1 + 1) 1 _ _ _ hm5 (by omega)).mono ?_
  rintro e w6 ⟨rfl, hm6, ho6⟩
  have ha6 := ha5.only ho6 (by omega)
  have mr16 := mr15.only ho6 (by omega)
  have mr26 := mr25.only ho6 (by omega)
  have bel6 := bel5.trans (ho6.below (by omega))
  clear ha4 ha5 hm4 hm5 mr14 mr15 mr24 mr25 bel4 bel5 ho6 e5 e6
  go_upto_region 7 with fail
  obtain ⟨as1, ha1, ha2⟩ := ha6
  obtain ⟨ps, hp1, hp2⟩ := hm6
  have hz := one_parts HN.out HM.out
  refine wp_region_held_drew (S := (fun w' => w'.heap[w.heap.size]? = some (.cells as1 63 (0, 0)) ∧ w'.heap[(w.heap.size + 1 + 1 + 1 + 1)]? = some (.cells ps 63 (0, 0)) ∧ (∃ n f, MagAt w' (w.heap.size + 1 + 1) n f) ∧ (∃ n f, MagAt w' (w.heap.size + 1 + 1 + 1) n f) ∧ Below w.heap.size w w')) (by kernel_rfl) ⟨ha1, hp1, ⟨_, _, mr16⟩, ⟨_, _, mr26⟩, bel6.drew⟩ (fun hHeld => ?_)
  refine' wpAnyH_take (i := 0) (oi := { dst := some 24, op := Go.Op.load 63 (Go.Operand.tmp 2), type := 63, pos := "l1_big.go:305", after := #[], guard := none }) (v := _) rfl (by kernel_rfl) (by kernel_rfl) (by kernel_rfl) (fun _ _ _ h => h) (yields_load63 (by rfl) (.tmp 2) w.heap.size _ _ as1 ha2 (fun _ h => h.1) rfl rfl) (by assumption) ?t0
  try simp only [Act.put, List.setIfInBounds_toArray, List.set_cons_succ]
  refine' wpAnyH_take (i := 1) (oi := { dst := some 25, op := Go.Op.load 63 (Go.Operand.tmp 6), type := 63, pos := "l1_big.go:305", after := #[{ on := 2, ground := Go.Ground.gcOnly Go.Departure.lateStores }], guard := none }) (v := _) rfl (by kernel_rfl) (by kernel_rfl) (by kernel_rfl) (fun _ _ _ h => h) (yields_load63 (by rfl) (.tmp 6) (w.heap.size + 1 + 1 + 1 + 1) _ _ ps hp2 (fun _ h => h.2.1) rfl rfl) (by assumption) ?t1
  try simp only [Act.put, List.setIfInBounds_toArray, List.set_cons_succ]
  refine wpAnyH_ready (rs := [2]) (by kernel_rfl) (by simp) ?_
  refine AllReadyH.cons (o := { dst := none, op := Go.Op.store 63 (Go.Operand.tmp 4) (Go.Operand.tmp 24), type := 0, pos := "l1_big.go:305", after := #[{ on := 0, ground := Go.Ground.data }, { on := 0, ground := Go.Ground.phase }, { on := 1, ground := Go.Ground.textOnly Go.Departure.lateStores }], guard := none }) rfl (fun K hK => ?_) AllReadyH.nil
  rw [if_pos (by rfl)]
  refine wp_store63 (.tmp 4) (.tmp 24) (w.heap.size + 1 + 1) _ _ _ _ as1 ha2 (show MagAt w6.drew _ _ _ from mr16) rfl rfl rfl ?_
  intro w9 h19 ho9
  have h29 := MagAt.only (show MagAt w6.drew _ _ _ from mr26) ho9 (by omega)
  have bel10 := Below.trans bel6.drew (ho9.below (by omega))
  have ha9 := (ho9.block w.heap.size (by omega)).trans ha1
  have hp9 := (ho9.block (w.heap.size + 1 + 1 + 1 + 1) (by omega)).trans hp1
  refine hK.out _ _ ⟨ha9, hp9, ⟨_, _, h19⟩, ⟨_, _, h29⟩, bel10⟩ (fun hHeld3 => ?_)
  clear hK K
  try simp only [Act.put]
  refine wpAnyH_ready (rs := [3]) (by kernel_rfl) (by simp) ?_
  refine AllReadyH.cons (o := { dst := none, op := Go.Op.store 63 (Go.Operand.tmp 5) (Go.Operand.tmp 25), type := 0, pos := "l1_big.go:305", after := #[{ on := 1, ground := Go.Ground.data }, { on := 2, ground := Go.Ground.chain }, { on := 0, ground := Go.Ground.phase }, { on := 1, ground := Go.Ground.phase }, { on := 2, ground := Go.Ground.phase }], guard := none }) rfl (fun K hK => ?_) AllReadyH.nil
  rw [if_pos (by rfl)]
  refine wp_store63 (.tmp 5) (.tmp 25) (w.heap.size + 1 + 1 + 1) _ _ _ _ ps hp2 h29 rfl rfl rfl ?_
  intro w10 h210 ho10
  have h110 := h19.only ho10 (by omega)
  have bel11 := bel10.trans (ho10.below (by omega))
  refine hK.out _ _ ⟨(ho10.block _ (by omega)).trans ha9, (ho10.block _ (by omega)).trans hp9, ⟨_, _, h110⟩, ⟨_, _, h210⟩, bel11⟩ (fun hHeld4 => ?_)
  clear hK K
  try simp only [Act.put]
  refine wpAnyH_done (by kernel_rfl) ?_ _
  go_wp2_with fail
  obtain ⟨qs', p1, p2⟩ := h110
  obtain ⟨rs', p3, p4⟩ := h210
  refine bodyPost_ret (v := .tuple #[.agg qs', .agg rs']) (results2_63 rfl _ _ (w.heap.size + 1 + 1) (w.heap.size + 1 + 1 + 1) _ _ _ _ qs' rs' (by simp) (by simp) p1 p3 p2 p4) rfl ?_
  exact ⟨qs', rs', rfl, trimN (dq F (G 0) nA) nA, trimN (upd (fun _ => 0) 0 (dr F (G 0) nA nA)) 1, ext nA (dq F (G 0) nA), p2, hz.1, upd (fun _ => 0) 0 (dr F (G 0) nA nA), p4, hz.2, bel11⟩

theorem sizes_any (cs cs' : Array Value) (nA n N M : Nat) (F G : Nat → Nat) (w : World) (hc : MagC cs nA F) (hc' : MagC cs' n G) (hN : Norm F nA N) (hM : Norm G n M) (h0 : 0 < n) (hn : nA ≤ 40) :
    Calls Try.prog 62 #[.agg cs, .agg cs'] w fun e w' => ∃ qs rs nq nr fq fr, e = .returned (.tuple #[.agg qs, .agg rs]) ∧ MagC qs nq fq ∧ Norm fq nq (N / M) ∧ MagC rs nr fr ∧ Norm fr nr (N % M) ∧ Below w.heap.size w w' := by
  by_cases h1 : nA < n
  · exact sizes_less cs cs' nA n N M F G w hc hc' hN hM h1 hn
  · by_cases h2 : n = 1
    · subst h2
      exact sizes_one cs cs' nA N M F G w hc hc' hN hM (by omega) hn
    · obtain ⟨m, rfl⟩ : ∃ m, n = m + 2 := ⟨n - 2, by omega⟩
      exact sizes_long cs cs' nA m N M F G w hc hc' hN hM (by omega) hn

end Go.Proofs.Ytpcnmolncoaddaa

namespace Go.Proofs.Ytpcnmolncoaddaa
open Go.RowKit Go.Joins

theorem wp_alloc63 {o : Oper} {a : Act} {w : World} {K : Act → World → Prop} {Q : Exit → Act → World → Prop} (d : Nat) (hd : o.dst = some d) (ho : o.op = .alloc 63)
    (h : ∀ w', w'.heap.size = w.heap.size + 1 → MagAt w' w.heap.size 0 (fun _ => 0) → Below w.heap.size w w' → K (a.put (some d) (.pointer (some ⟨w.heap.size, 0, none⟩))) w') : o.wp Try.prog a w K Q := by
  unfold Oper.wp
  simp only [execOp, ho, Instr.alloc, Sem.run_bind, run_zero63, Result.andThen]
  rw [← hd] at h
  exact h (w.alloc (.cells zero63 63)) (by simp) ⟨zero63, heap_alloc_new _ _, zero63_mag⟩ (below_alloc1 _ _)

theorem Try.size37 : (Try.prog.info? 37).map (·.size) = some 5 := by kernel_rfl
theorem Try.underlying37 : Try.prog.underlying 37 = some (Try.prog.underlying 37).get! := by kernel_rfl
def dvQ (s : Bool) (X Y : Nat) : Nat := if s = true ∧ 0 < X % Y then X / Y + 1 else X / Y
def dvR (s : Bool) (X Y : Nat) : Nat := if s = true ∧ 0 < X % Y then Y - X % Y else X % Y

theorem diffNorm {f' fr : Nat → Nat} {n' nr B X : Nat} (h : Norm (ext n' f') n' B) (h' : Norm fr nr X) (hle : X ≤ B) :
    Norm (ext n' (subD (ext n' f') fr)) (trimN (subD (ext n' f') fr) n') (B - X) := by
  have e : ext nr fr = fr := by
    funext i
    unfold ext
    by_cases hi : i < nr
    · rw [if_pos hi]
    · rw [if_neg hi, h'.zero i (by omega)]
  have q := subNorm h (show Norm (ext nr fr) nr X by rw [e]; exact h') hle
  rw [e] at q
  have e2 : ext (trimN (subD (ext n' f') fr) n') (subD (ext n' f') fr) = ext n' (subD (ext n' f') fr) := by
    funext i
    have hl := trimN_le (subD (ext n' f') fr) n'
    unfold ext at hl ⊢
    by_cases hi : i < trimN (subD (fun i => if i < n' then f' i else 0) fr) n'
    · rw [if_pos hi, if_pos (by omega)]
    · rw [if_neg hi]
      by_cases hj : i < n'
      · rw [if_pos hj]
        exact (trimN_zero _ n' i (by omega) hj).symm
      · rw [if_neg hj]
  rw [e2] at q
  exact q

set_option maxHeartbeats 4000000 in
set_option maxRecDepth 100000 in
theorem iDiv_core (m m' : Bool) (a a' : Option Addr) (n c n' c' : Nat) (f f' : Nat → Nat) (A B : Int) (w : World) (NA : Num w m (.slice a n c) n f A) (NB : Num w m' (.slice a' n' c') n' f' B) (hp : 0 < n') :
    Calls Try.prog 25 #[.agg #[.bool m, .slice a n c], .agg #[.bool m', .slice a' n' c']] w fun e w' => ∃ (v v' : Value) (N N' : Nat) (D D' : Nat → Nat) (B1 : Nat), e = .returned (.agg #[.int .i64 0, .bool ((m != m') && decide (0 < N)), v, .bool (m' && decide (0 < N')), v']) ∧ Own w.heap.size w' v N D ∧ In w.heap.size B1 v N ∧ Own B1 w' v' N' D' ∧ w.heap.size ≤ B1 ∧ Norm D N (dvQ (m != m') A.natAbs B.natAbs) ∧ Norm D' N' (dvR (m != m') A.natAbs B.natAbs) ∧ Below w.heap.size w w' := by
  have hn := NA.le
  have hn' := NB.le
  have tp : ((n' : Int) == 0) = false := by simp; omega
  go_enter Try.func25, Try.ntmps25
  go_wp2_with fail
  refine (iFault_any m _ n f _ (NA.lim.below (below_alloc3 _ _ _ _))).mono ?_
  rintro e w1 ⟨rfl, hb1⟩
  rw [NA.fault]
  have xa := (((At2.start w (.bool m) (.slice a n c) 25).next (below_alloc1 _ (.cells #[.bool m', .slice a' n' c'] 25))).next (below_alloc1 _ (.cells #[.int .i64 0, .bool false, .slice none 0 0, .bool false, .slice none 0 0] 37))).next hb1
  have xb := ((At2.start (w.alloc (.cells #[.bool m, .slice a n c] 25)) (.bool m') (.slice a' n' c') 25).next (below_alloc1 _ (.cells #[.int .i64 0, .bool false, .slice none 0 0, .bool false, .slice none 0 0] 37))).next hb1
  simp only [World.size_alloc] at xb
  have bel1 : Below w.heap.size w w1 := (below_alloc3 w (.cells #[.bool m, .slice a n c] 25) (.cells #[.bool m', .slice a' n' c'] 25) (.cells #[.int .i64 0, .bool false, .slice none 0 0, .bool false, .slice none 0 0] 37)).trans (hb1.mono (by simp only [World.size_alloc]; omega))
  have z1 := hb1.size
  simp only [World.size_alloc] at z1
  have r1 : w1.heap[w.heap.size + 1 + 1]? = some (.cells #[.int .i64 0, .bool false, .slice none 0 0, .bool false, .slice none 0 0] 37 (0, 0)) := (hb1.block _ (by simp)).trans (by rw [show w.heap.size + 1 + 1 = ((w.alloc (.cells #[.bool m, .slice a n c] 25)).alloc (.cells #[.bool m', .slice a' n' c'] 25)).heap.size from by simp]; exact heap_alloc_new _ _)
  clear hb1
  obtain ⟨a0, a1, alt⟩ := id xa
  obtain ⟨b0, b1, blt⟩ := id xb
  go_wp2_with fail
  refine (iFault_any m' _ n' f' _ (NB.lim.below bel1)).mono ?_
  rintro e w2 ⟨rfl, hb2⟩
  rw [NB.fault]
  have xa2 := xa.next hb2
  have xb2 := xb.next hb2
  have bel2 := bel1.trans (hb2.mono bel1.size)
  have z2 := hb2.size
  have r2 := (hb2.block _ (by omega)).trans r1
  clear r1 hb2 xa xb bel1 a0 a1 alt b0 b1 blt
  obtain ⟨a0, a1, alt⟩ := id xa2
  obtain ⟨b0, b1, blt⟩ := id xb2
  go_wp2_with fail
  refine (magOf_any _ n' f' _ (NB.lim.below bel2) (by omega)).mono ?_
  rintro e w3 ⟨ds0, rfl, hds0, hb3⟩
  have xa3 := xa2.next hb3
  have xb3 := xb2.next hb3
  have bel3 := bel2.trans (hb3.mono bel2.size)
  have z3 := hb3.size
  have r3 := (hb3.block _ (by omega)).trans r2
  clear r2 hb3 xa2 xb2 bel2 a0 a1 alt b0 b1 blt
  go_upto_region 6 with (first
    | ((with_reducible refine wpList_alloc63 5 ?_ ?_ ?_ ?_); rfl; rfl; rfl; intro w4 hz4 hm4 hb4)
    | ((with_reducible refine wpList_store63 (.tmp 5) (.tmp 23) w3.heap.size _ 0 _ (fun _ => 0) ds0 hds0 hm4 ?_ ?_ ?_ ?_ ?_); rfl; rfl; rfl; rfl; intro w5 hm5 ho5))
  have hb35 := hb4.trans (ho5.below (Nat.le_refl _))
  have hxa := xa3.next hb35
  have hxb := xb3.next hb35
  have bel5 := bel3.trans (hb35.mono bel3.size)
  have hrs := (hb35.block _ (by omega)).trans r3
  have hbd := hm5.lt
  obtain ⟨ds, hd1, hd2⟩ := hm5
  replace NA := NA.below bel5
  replace NB := NB.below bel5
  clear r3 hb4 hb35 ho5 hm4 xa3 xb3 bel3 hds0
  generalize hbdd : w3.heap.size = bd at *
  clear hbdd
  rename World => W
  simp only [Act.put, List.setIfInBounds_toArray, List.set_cons_zero, List.set_cons_succ]
  go_cut [6, 7, 24] (fun s6 s7 _ wx => ∃ b6 b7 nq nr fq fr, s6 = .pointer (some ⟨b6, 0, none⟩) ∧ s7 = .pointer (some ⟨b7, 0, none⟩) ∧ W.heap.size ≤ b6 ∧ W.heap.size ≤ b7 ∧ b6 ≠ b7 ∧ MagAt wx b6 nq fq ∧ Norm fq nq (A.natAbs / B.natAbs) ∧ MagAt wx b7 nr fr ∧ Norm fr nr (A.natAbs % B.natAbs) ∧ Below W.heap.size W wx)
  case first =>
    refine wp_region_held_drew (S := (fun w' => w'.cell? ⟨w.heap.size, 1, none⟩ = some (.slice a n c) ∧ w'.heap[bd]? = some (.cells ds 63 (0, 0)) ∧ Below W.heap.size W w')) (by kernel_rfl) ⟨(hxa.next (below_drew0 W)).c1, ((below_drew0 W).block _ hbd).trans hd1, (below_drew0 W)⟩ (fun hHeld => ?_)
    refine' wpAnyH_take (i := 0) (oi := { dst := some 25, op := Go.Op.fieldAddr 25 (Go.Operand.tmp 2) 1, type := 0, pos := "l1_big.go:158", after := #[], guard := none }) (v := _) rfl (by kernel_rfl) (by kernel_rfl) (by kernel_rfl) (fun _ _ _ h => h) (Or.inl ⟨by rfl, ?y0⟩) (by assumption) ?r0
    case y0 => (intro w hSw; (try dsimp only at hSw); go_simp; (try with_reducible rfl))
    try simp only [Act.put, List.setIfInBounds_toArray, List.set_cons_succ]
    refine' wpAnyH_take (i := 1) (oi := { dst := some 26, op := Go.Op.load 23 (Go.Operand.tmp 25), type := 23, pos := "l1_big.go:158", after := #[{ on := 0, ground := Go.Ground.data }], guard := none }) (v := _) rfl (by kernel_rfl) (by kernel_rfl) (by kernel_rfl) (fun _ _ _ h => h) (Or.inl ⟨by rfl, ?y1⟩) (by assumption) ?r1
    case y1 => (intro w hSw; (try dsimp only at hSw); obtain ⟨s1, s2, s3⟩ := hSw; go_simp; (try with_reducible rfl))
    try simp only [Act.put, List.setIfInBounds_toArray, List.set_cons_succ]
    refine' wpAnyH_take (i := 3) (oi := { dst := some 28, op := Go.Op.load 63 (Go.Operand.tmp 5), type := 63, pos := "l1_big.go:158", after := #[], guard := none }) (v := _) rfl (by kernel_rfl) (by kernel_rfl) (by kernel_rfl) (fun _ _ _ h => h) (yields_load63 (by rfl) (.tmp 5) bd _ _ ds hd2 (fun _ h => h.2.1) rfl rfl) (by assumption) ?r3
    try simp only [Act.put, List.setIfInBounds_toArray, List.set_cons_succ]
    have bD0 := below_drew0 W
    refine wpAnyH_ready (rs := [2, 8, 9]) (by kernel_rfl) (by simp) ?_
    refine AllReadyH.cons (o := { dst := some 27, op := Go.Op.call { callee := Go.Callee.value (Go.Operand.func 54), args := #[Go.Operand.tmp 26], argTypes := #[23] }, type := 63, pos := "l1_big.go:158", after := #[{ on := 1, ground := Go.Ground.data }], guard := none }) rfl (fun K hK => ?_) ?_
    ·
      go_simp
      refine (magOf_any _ n f _ (NA.lim.below bD0) (by omega)).mono ?_
      rintro e w2 ⟨us, rfl, hus, hb2⟩
      have y2 := hb2.size
      have z2 := bD0.size
      have c2 := bD0.trans (hb2.mono z2)
      go_wp2_with fail
      refine hK.out _ _ ⟨(hxa.next c2).c1, (c2.block _ hbd).trans hd1, c2⟩ (fun hHeld2 => ?_)
      clear hK K
      try simp only [Act.put, List.setIfInBounds_toArray, List.set_cons_succ]
      refine wpAnyH_ready (rs := [4, 8, 9]) (by kernel_rfl) (by simp) ?_
      refine AllReadyH.cons (o := { dst := some 29, op := Go.Op.call { callee := Go.Callee.value (Go.Operand.func 62), args := #[Go.Operand.tmp 27, Go.Operand.tmp 28], argTypes := #[63, 63] }, type := 73, pos := "l1_big.go:158", after := #[{ on := 2, ground := Go.Ground.data }, { on := 3, ground := Go.Ground.data }, { on := 2, ground := Go.Ground.chain }], guard := none }) rfl (fun K hK => ?_) ?_
      ·
        go_simp
        refine (sizes_any us ds n n' A.natAbs B.natAbs _ _ _ hus hd2 NA.norm NB.norm hp (by omega)).mono ?_
        rintro e w4 ⟨qs, rs, nq, nr, fq, fr, rfl, hq, nQ, hr, nR, hb4⟩
        have y4 := hb4.size
        have z4 := c2.size
        have c4 := c2.trans (hb4.mono z4)
        go_wp2_with fail
        refine hK.out _ _ ⟨(hxa.next c4).c1, (c4.block _ hbd).trans hd1, c4⟩ (fun hHeld4 => ?_)
        clear hK K
        try simp only [Act.put, List.setIfInBounds_toArray, List.set_cons_succ]
        refine' wpAnyH_take (i := 5) (oi := { dst := some 24, op := Go.Op.move (Go.Operand.tmp 29), type := 73, pos := "l1_big.go:158", after := #[{ on := 4, ground := Go.Ground.data }], guard := none }) (v := _) rfl (by kernel_rfl) (by kernel_rfl) (by kernel_rfl) (fun _ _ _ h => h) (Or.inl ⟨by rfl, ?y5_1⟩) (by assumption) ?r5_1
        case y5_1 => (intro w hSw; (try dsimp only at hSw); go_simp; (try with_reducible rfl))
        try simp only [Act.put, List.setIfInBounds_toArray, List.set_cons_succ]
        refine' wpAnyH_take (i := 6) (oi := { dst := some 30, op := Go.Op.extract (Go.Operand.tmp 24) 0, type := 63, pos := "l1_big.go:158", after := #[{ on := 5, ground := Go.Ground.data }], guard := none }) (v := _) rfl (by kernel_rfl) (by kernel_rfl) (by kernel_rfl) (fun _ _ _ h => h) (Or.inl ⟨by rfl, ?y6_1⟩) (by assumption) ?r6_1
        case y6_1 => (intro w hSw; (try dsimp only at hSw); go_simp; (try with_reducible rfl))
        try simp only [Act.put, List.setIfInBounds_toArray, List.set_cons_succ]
        refine' wpAnyH_take (i := 7) (oi := { dst := some 31, op := Go.Op.extract (Go.Operand.tmp 24) 1, type := 63, pos := "l1_big.go:158", after := #[{ on := 5, ground := Go.Ground.data }, { on := 10, ground := Go.Ground.gcOnly Go.Departure.lateStores }], guard := none }) (v := _) rfl (by kernel_rfl) (by kernel_rfl) (by kernel_rfl) (fun _ _ _ h => h) (Or.inl ⟨by rfl, ?y7_1⟩) (by assumption) ?r7_1
        case y7_1 => (intro w hSw; (try dsimp only at hSw); go_simp; (try with_reducible rfl))
        try simp only [Act.put, List.setIfInBounds_toArray, List.set_cons_succ]
        refine wpAnyH_ready (rs := [8, 9]) (by kernel_rfl) (by simp) ?_
        refine AllReadyH.cons (o := { dst := some 6, op := Go.Op.alloc 63, type := 0, pos := "l1_big.go:158", after := #[], guard := none }) rfl (fun K hK => ?_) ?_
        ·
          rw [if_pos (by rfl)]
          refine wp_alloc63 6 rfl rfl ?_
          intro w8 y8 m6 hb8
          obtain ⟨b6, hB8⟩ : ∃ b, b = w4.heap.size := ⟨_, rfl⟩
          rw [← hB8] at m6 y8 ⊢
          have l6 : W.heap.size ≤ b6 := by rw [hB8]; exact c4.size
          clear hB8 y8
          have z8 := c4.size
          have c8 := c4.trans (hb8.mono z8)
          refine hK.out _ _ ⟨(hxa.next c8).c1, (c8.block _ hbd).trans hd1, c8⟩ (fun hHeld8 => ?_)
          clear hK K
          try simp only [Act.put, List.setIfInBounds_toArray, List.set_cons_succ]
          refine wpAnyH_ready (rs := [9]) (by kernel_rfl) (by simp) ?_
          refine AllReadyH.cons (o := { dst := some 7, op := Go.Op.alloc 63, type := 0, pos := "l1_big.go:158", after := #[], guard := none }) rfl (fun K hK => ?_) ?_
          ·
            rw [if_pos (by rfl)]
            refine wp_alloc63 7 rfl rfl ?_
            intro w9 y9 m7 hb9
            obtain ⟨b7, hB9⟩ : ∃ b, b = w8.heap.size := ⟨_, rfl⟩
            rw [← hB9] at m7 y9 ⊢
            have l7 : W.heap.size ≤ b7 := by rw [hB9]; exact c8.size
            have n67 : b6 ≠ b7 := by have q := m6.lt; omega
            clear hB9 y9
            have m6 := m6.below hb9 m6.lt
            have z9 := c8.size
            have c9 := c8.trans (hb9.mono z9)
            refine hK.out _ _ ⟨(hxa.next c9).c1, (c9.block _ hbd).trans hd1, c9⟩ (fun hHeld9 => ?_)
            clear hK K
            try simp only [Act.put, List.setIfInBounds_toArray, List.set_cons_succ]
            refine wpAnyH_ready (rs := [10]) (by kernel_rfl) (by simp) ?_
            refine AllReadyH.cons (o := { dst := none, op := Go.Op.store 63 (Go.Operand.tmp 6) (Go.Operand.tmp 30), type := 0, pos := "l1_big.go:158", after := #[{ on := 8, ground := Go.Ground.data }, { on := 6, ground := Go.Ground.data }, { on := 4, ground := Go.Ground.chain }, { on := 0, ground := Go.Ground.phase }, { on := 1, ground := Go.Ground.phase }, { on := 2, ground := Go.Ground.phase }, { on := 3, ground := Go.Ground.phase }, { on := 4, ground := Go.Ground.phase }, { on := 5, ground := Go.Ground.phase }, { on := 6, ground := Go.Ground.phase }, { on := 7, ground := Go.Ground.textOnly Go.Departure.lateStores }, { on := 8, ground := Go.Ground.phase }, { on := 9, ground := Go.Ground.phase }], guard := none }) rfl (fun K hK => ?_) AllReadyH.nil
            rw [if_pos (by rfl)]
            refine wp_store63 (.tmp 6) (.tmp 30) b6 _ _ _ _ qs hq m6 rfl rfl rfl ?_
            intro w10 k10 o10
            have m7' := m7.only o10 (by omega)
            have b10 := c9.trans (o10.below (by omega))
            refine hK.out _ _ ⟨(hxa.next b10).c1, (b10.block _ hbd).trans hd1, b10⟩ (fun hHeld10 => ?_)
            clear hK K
            try simp only [Act.put]
            refine wpAnyH_ready (rs := [11]) (by kernel_rfl) (by simp) ?_
            refine AllReadyH.cons (o := { dst := none, op := Go.Op.store 63 (Go.Operand.tmp 7) (Go.Operand.tmp 31), type := 0, pos := "l1_big.go:158", after := #[{ on := 9, ground := Go.Ground.data }, { on := 7, ground := Go.Ground.data }, { on := 10, ground := Go.Ground.chain }, { on := 0, ground := Go.Ground.phase }, { on := 1, ground := Go.Ground.phase }, { on := 2, ground := Go.Ground.phase }, { on := 3, ground := Go.Ground.phase }, { on := 4, ground := Go.Ground.phase }, { on := 5, ground := Go.Ground.phase }, { on := 6, ground := Go.Ground.phase }, { on := 7, ground := Go.Ground.phase }, { on := 8, ground := Go.Ground.phase }, { on := 9, ground := Go.Ground.phase }, { on := 10, ground := Go.Ground.phase }], guard := none }) rfl (fun K hK => ?_) AllReadyH.nil
            rw [if_pos (by rfl)]
            refine wp_store63 (.tmp 7) (.tmp 31) b7 _ _ _ _ rs hr m7' rfl rfl rfl ?_
            intro w11 k11 o11
            have b11 := b10.trans (o11.below (by omega))
            refine hK.out _ _ ⟨(hxa.next b11).c1, (b11.block _ hbd).trans hd1, b11⟩ (fun hHeld11 => ?_)
            clear hK K
            try simp only [Act.put]
            refine wpAnyH_done (by kernel_rfl) ?_ _
            go_wp2_with fail
            go_meet
            case rel => exact ⟨b6, b7, _, _, _, _, rfl, rfl, l6, l7, n67, k10.only o11 (by omega), nQ, k11, nR, b11⟩
          exact AllReadyH.nil
        refine AllReadyH.cons (o := { dst := some 7, op := Go.Op.alloc 63, type := 0, pos := "l1_big.go:158", after := #[], guard := none }) rfl (fun K hK => ?_) ?_
        ·
          rw [if_pos (by rfl)]
          refine wp_alloc63 7 rfl rfl ?_
          intro w9 y9 m7 hb9
          obtain ⟨b7, hB9⟩ : ∃ b, b = w4.heap.size := ⟨_, rfl⟩
          rw [← hB9] at m7 y9 ⊢
          have l7 : W.heap.size ≤ b7 := by rw [hB9]; exact c4.size
          clear hB9 y9
          have z9 := c4.size
          have c9 := c4.trans (hb9.mono z9)
          refine hK.out _ _ ⟨(hxa.next c9).c1, (c9.block _ hbd).trans hd1, c9⟩ (fun hHeld9 => ?_)
          clear hK K
          try simp only [Act.put, List.setIfInBounds_toArray, List.set_cons_succ]
          refine wpAnyH_ready (rs := [8]) (by kernel_rfl) (by simp) ?_
          refine AllReadyH.cons (o := { dst := some 6, op := Go.Op.alloc 63, type := 0, pos := "l1_big.go:158", after := #[], guard := none }) rfl (fun K hK => ?_) ?_
          ·
            rw [if_pos (by rfl)]
            refine wp_alloc63 6 rfl rfl ?_
            intro w8 y8 m6 hb8
            obtain ⟨b6, hB8⟩ : ∃ b, b = w9.heap.size := ⟨_, rfl⟩
            rw [← hB8] at m6 y8 ⊢
            have l6 : W.heap.size ≤ b6 := by rw [hB8]; exact c9.size
            have n67 : b6 ≠ b7 := by have q := m7.lt; omega
            clear hB8 y8
            have m7 := m7.below hb8 m7.lt
            have z8 := c9.size
            have c8 := c9.trans (hb8.mono z8)
            refine hK.out _ _ ⟨(hxa.next c8).c1, (c8.block _ hbd).trans hd1, c8⟩ (fun hHeld8 => ?_)
            clear hK K
            try simp only [Act.put, List.setIfInBounds_toArray, List.set_cons_succ]
            refine wpAnyH_ready (rs := [10]) (by kernel_rfl) (by simp) ?_
            refine AllReadyH.cons (o := { dst := none, op := Go.Op.store 63 (Go.Operand.tmp 6) (Go.Operand.tmp 30), type := 0, pos := "l1_big.go:158", after := #[{ on := 8, ground := Go.Ground.data }, { on := 6, ground := Go.Ground.data }, { on := 4, ground := Go.Ground.chain }, { on := 0, ground := Go.Ground.phase }, { on := 1, ground := Go.Ground.phase }, { on := 2, ground := Go.Ground.phase }, { on := 3, ground := Go.Ground.phase }, { on := 4, ground := Go.Ground.phase }, { on := 5, ground := Go.Ground.phase }, { on := 6, ground := Go.Ground.phase }, { on := 7, ground := Go.Ground.textOnly Go.Departure.lateStores }, { on := 8, ground := Go.Ground.phase }, { on := 9, ground := Go.Ground.phase }], guard := none }) rfl (fun K hK => ?_) AllReadyH.nil
            rw [if_pos (by rfl)]
            refine wp_store63 (.tmp 6) (.tmp 30) b6 _ _ _ _ qs hq m6 rfl rfl rfl ?_
            intro w10 k10 o10
            have m7' := m7.only o10 (by omega)
            have b10 := c8.trans (o10.below (by omega))
            refine hK.out _ _ ⟨(hxa.next b10).c1, (b10.block _ hbd).trans hd1, b10⟩ (fun hHeld10 => ?_)
            clear hK K
            try simp only [Act.put]
            refine wpAnyH_ready (rs := [11]) (by kernel_rfl) (by simp) ?_
            refine AllReadyH.cons (o := { dst := none, op := Go.Op.store 63 (Go.Operand.tmp 7) (Go.Operand.tmp 31), type := 0, pos := "l1_big.go:158", after := #[{ on := 9, ground := Go.Ground.data }, { on := 7, ground := Go.Ground.data }, { on := 10, ground := Go.Ground.chain }, { on := 0, ground := Go.Ground.phase }, { on := 1, ground := Go.Ground.phase }, { on := 2, ground := Go.Ground.phase }, { on := 3, ground := Go.Ground.phase }, { on := 4, ground := Go.Ground.phase }, { on := 5, ground := Go.Ground.phase }, { on := 6, ground := Go.Ground.phase }, { on := 7, ground := Go.Ground.phase }, { on := 8, ground := Go.Ground.phase }, { on := 9, ground := Go.Ground.phase }, { on := 10, ground := Go.Ground.phase }], guard := none }) rfl (fun K hK => ?_) AllReadyH.nil
            rw [if_pos (by rfl)]
            refine wp_store63 (.tmp 7) (.tmp 31) b7 _ _ _ _ rs hr m7' rfl rfl rfl ?_
            intro w11 k11 o11
            have b11 := b10.trans (o11.below (by omega))
            refine hK.out _ _ ⟨(hxa.next b11).c1, (b11.block _ hbd).trans hd1, b11⟩ (fun hHeld11 => ?_)
            clear hK K
            try simp only [Act.put]
            refine wpAnyH_done (by kernel_rfl) ?_ _
            go_wp2_with fail
            go_meet
            case rel => exact ⟨b6, b7, _, _, _, _, rfl, rfl, l6, l7, n67, k10.only o11 (by omega), nQ, k11, nR, b11⟩
          exact AllReadyH.nil
        exact AllReadyH.nil
      refine AllReadyH.cons (o := { dst := some 6, op := Go.Op.alloc 63, type := 0, pos := "l1_big.go:158", after := #[], guard := none }) rfl (fun K hK => ?_) ?_
      ·
        rw [if_pos (by rfl)]
        refine wp_alloc63 6 rfl rfl ?_
        intro w8 y8 m6 hb8
        obtain ⟨b6, hB8⟩ : ∃ b, b = w2.heap.size := ⟨_, rfl⟩
        rw [← hB8] at m6 y8 ⊢
        have l6 : W.heap.size ≤ b6 := by rw [hB8]; exact c2.size
        clear hB8 y8
        have z8 := c2.size
        have c8 := c2.trans (hb8.mono z8)
        refine hK.out _ _ ⟨(hxa.next c8).c1, (c8.block _ hbd).trans hd1, c8⟩ (fun hHeld8 => ?_)
        clear hK K
        try simp only [Act.put, List.setIfInBounds_toArray, List.set_cons_succ]
        refine wpAnyH_ready (rs := [4, 9]) (by kernel_rfl) (by simp) ?_
        refine AllReadyH.cons (o := { dst := some 29, op := Go.Op.call { callee := Go.Callee.value (Go.Operand.func 62), args := #[Go.Operand.tmp 27, Go.Operand.tmp 28], argTypes := #[63, 63] }, type := 73, pos := "l1_big.go:158", after := #[{ on := 2, ground := Go.Ground.data }, { on := 3, ground := Go.Ground.data }, { on := 2, ground := Go.Ground.chain }], guard := none }) rfl (fun K hK => ?_) ?_
        ·
          go_simp
          refine (sizes_any us ds n n' A.natAbs B.natAbs _ _ _ hus hd2 NA.norm NB.norm hp (by omega)).mono ?_
          rintro e w4 ⟨qs, rs, nq, nr, fq, fr, rfl, hq, nQ, hr, nR, hb4⟩
          have y4 := hb4.size
          have m6 := m6.below hb4 m6.lt
          have z4 := c8.size
          have c4 := c8.trans (hb4.mono z4)
          go_wp2_with fail
          refine hK.out _ _ ⟨(hxa.next c4).c1, (c4.block _ hbd).trans hd1, c4⟩ (fun hHeld4 => ?_)
          clear hK K
          try simp only [Act.put, List.setIfInBounds_toArray, List.set_cons_succ]
          refine' wpAnyH_take (i := 5) (oi := { dst := some 24, op := Go.Op.move (Go.Operand.tmp 29), type := 73, pos := "l1_big.go:158", after := #[{ on := 4, ground := Go.Ground.data }], guard := none }) (v := _) rfl (by kernel_rfl) (by kernel_rfl) (by kernel_rfl) (fun _ _ _ h => h) (Or.inl ⟨by rfl, ?y5_2⟩) (by assumption) ?r5_2
          case y5_2 => (intro w hSw; (try dsimp only at hSw); go_simp; (try with_reducible rfl))
          try simp only [Act.put, List.setIfInBounds_toArray, List.set_cons_succ]
          refine' wpAnyH_take (i := 6) (oi := { dst := some 30, op := Go.Op.extract (Go.Operand.tmp 24) 0, type := 63, pos := "l1_big.go:158", after := #[{ on := 5, ground := Go.Ground.data }], guard := none }) (v := _) rfl (by kernel_rfl) (by kernel_rfl) (by kernel_rfl) (fun _ _ _ h => h) (Or.inl ⟨by rfl, ?y6_2⟩) (by assumption) ?r6_2
          case y6_2 => (intro w hSw; (try dsimp only at hSw); go_simp; (try with_reducible rfl))
          try simp only [Act.put, List.setIfInBounds_toArray, List.set_cons_succ]
          refine' wpAnyH_take (i := 7) (oi := { dst := some 31, op := Go.Op.extract (Go.Operand.tmp 24) 1, type := 63, pos := "l1_big.go:158", after := #[{ on := 5, ground := Go.Ground.data }, { on := 10, ground := Go.Ground.gcOnly Go.Departure.lateStores }], guard := none }) (v := _) rfl (by kernel_rfl) (by kernel_rfl) (by kernel_rfl) (fun _ _ _ h => h) (Or.inl ⟨by rfl, ?y7_2⟩) (by assumption) ?r7_2
          case y7_2 => (intro w hSw; (try dsimp only at hSw); go_simp; (try with_reducible rfl))
          try simp only [Act.put, List.setIfInBounds_toArray, List.set_cons_succ]
          refine wpAnyH_ready (rs := [9]) (by kernel_rfl) (by simp) ?_
          refine AllReadyH.cons (o := { dst := some 7, op := Go.Op.alloc 63, type := 0, pos := "l1_big.go:158", after := #[], guard := none }) rfl (fun K hK => ?_) ?_
          ·
            rw [if_pos (by rfl)]
            refine wp_alloc63 7 rfl rfl ?_
            intro w9 y9 m7 hb9
            obtain ⟨b7, hB9⟩ : ∃ b, b = w4.heap.size := ⟨_, rfl⟩
            rw [← hB9] at m7 y9 ⊢
            have l7 : W.heap.size ≤ b7 := by rw [hB9]; exact c4.size
            have n67 : b6 ≠ b7 := by have q := m6.lt; omega
            clear hB9 y9
            have m6 := m6.below hb9 m6.lt
            have z9 := c4.size
            have c9 := c4.trans (hb9.mono z9)
            refine hK.out _ _ ⟨(hxa.next c9).c1, (c9.block _ hbd).trans hd1, c9⟩ (fun hHeld9 => ?_)
            clear hK K
            try simp only [Act.put, List.setIfInBounds_toArray, List.set_cons_succ]
            refine wpAnyH_ready (rs := [10]) (by kernel_rfl) (by simp) ?_
            refine AllReadyH.cons (o := { dst := none, op := Go.Op.store 63 (Go.Operand.tmp 6) (Go.Operand.tmp 30), type := 0, pos := "l1_big.go:158", after := #[{ on := 8, ground := Go.Ground.data }, { on := 6, ground := Go.Ground.data }, { on := 4, ground := Go.Ground.chain }, { on := 0, ground := Go.Ground.phase }, { on := 1, ground := Go.Ground.phase }, { on := 2, ground := Go.Ground.phase }, { on := 3, ground := Go.Ground.phase }, { on := 4, ground := Go.Ground.phase }, { on := 5, ground := Go.Ground.phase }, { on := 6, ground := Go.Ground.phase }, { on := 7, ground := Go.Ground.textOnly Go.Departure.lateStores }, { on := 8, ground := Go.Ground.phase }, { on := 9, ground := Go.Ground.phase }], guard := none }) rfl (fun K hK => ?_) AllReadyH.nil
            rw [if_pos (by rfl)]
            refine wp_store63 (.tmp 6) (.tmp 30) b6 _ _ _ _ qs hq m6 rfl rfl rfl ?_
            intro w10 k10 o10
            have m7' := m7.only o10 (by omega)
            have b10 := c9.trans (o10.below (by omega))
            refine hK.out _ _ ⟨(hxa.next b10).c1, (b10.block _ hbd).trans hd1, b10⟩ (fun hHeld10 => ?_)
            clear hK K
            try simp only [Act.put]
            refine wpAnyH_ready (rs := [11]) (by kernel_rfl) (by simp) ?_
            refine AllReadyH.cons (o := { dst := none, op := Go.Op.store 63 (Go.Operand.tmp 7) (Go.Operand.tmp 31), type := 0, pos := "l1_big.go:158", after := #[{ on := 9, ground := Go.Ground.data }, { on := 7, ground := Go.Ground.data }, { on := 10, ground := Go.Ground.chain }, { on := 0, ground := Go.Ground.phase }, { on := 1, ground := Go.Ground.phase }, { on := 2, ground := Go.Ground.phase }, { on := 3, ground := Go.Ground.phase }, { on := 4, ground := Go.Ground.phase }, { on := 5, ground := Go.Ground.phase }, { on := 6, ground := Go.Ground.phase }, { on := 7, ground := Go.Ground.phase }, { on := 8, ground := Go.Ground.phase }, { on := 9, ground := Go.Ground.phase }, { on := 10, ground := Go.Ground.phase }], guard := none }) rfl (fun K hK => ?_) AllReadyH.nil
            rw [if_pos (by rfl)]
            refine wp_store63 (.tmp 7) (.tmp 31) b7 _ _ _ _ rs hr m7' rfl rfl rfl ?_
            intro w11 k11 o11
            have b11 := b10.trans (o11.below (by omega))
            refine hK.out _ _ ⟨(hxa.next b11).c1, (b11.block _ hbd).trans hd1, b11⟩ (fun hHeld11 => ?_)
            clear hK K
            try simp only [Act.put]
            refine wpAnyH_done (by kernel_rfl) ?_ _
            go_wp2_with fail
            go_meet
            case rel => exact ⟨b6, b7, _, _, _, _, rfl, rfl, l6, l7, n67, k10.only o11 (by omega), nQ, k11, nR, b11⟩
          exact AllReadyH.nil
        refine AllReadyH.cons (o := { dst := some 7, op := Go.Op.alloc 63, type := 0, pos := "l1_big.go:158", after := #[], guard := none }) rfl (fun K hK => ?_) ?_
        ·
          rw [if_pos (by rfl)]
          refine wp_alloc63 7 rfl rfl ?_
          intro w9 y9 m7 hb9
          obtain ⟨b7, hB9⟩ : ∃ b, b = w8.heap.size := ⟨_, rfl⟩
          rw [← hB9] at m7 y9 ⊢
          have l7 : W.heap.size ≤ b7 := by rw [hB9]; exact c8.size
          have n67 : b6 ≠ b7 := by have q := m6.lt; omega
          clear hB9 y9
          have m6 := m6.below hb9 m6.lt
          have z9 := c8.size
          have c9 := c8.trans (hb9.mono z9)
          refine hK.out _ _ ⟨(hxa.next c9).c1, (c9.block _ hbd).trans hd1, c9⟩ (fun hHeld9 => ?_)
          clear hK K
          try simp only [Act.put, List.setIfInBounds_toArray, List.set_cons_succ]
          refine wpAnyH_ready (rs := [4]) (by kernel_rfl) (by simp) ?_
          refine AllReadyH.cons (o := { dst := some 29, op := Go.Op.call { callee := Go.Callee.value (Go.Operand.func 62), args := #[Go.Operand.tmp 27, Go.Operand.tmp 28], argTypes := #[63, 63] }, type := 73, pos := "l1_big.go:158", after := #[{ on := 2, ground := Go.Ground.data }, { on := 3, ground := Go.Ground.data }, { on := 2, ground := Go.Ground.chain }], guard := none }) rfl (fun K hK => ?_) ?_
          ·
            go_simp
            refine (sizes_any us ds n n' A.natAbs B.natAbs _ _ _ hus hd2 NA.norm NB.norm hp (by omega)).mono ?_
            rintro e w4 ⟨qs, rs, nq, nr, fq, fr, rfl, hq, nQ, hr, nR, hb4⟩
            have y4 := hb4.size
            have m6 := m6.below hb4 m6.lt
            have m7 := m7.below hb4 m7.lt
            have z4 := c9.size
            have c4 := c9.trans (hb4.mono z4)
            go_wp2_with fail
            refine hK.out _ _ ⟨(hxa.next c4).c1, (c4.block _ hbd).trans hd1, c4⟩ (fun hHeld4 => ?_)
            clear hK K
            try simp only [Act.put, List.setIfInBounds_toArray, List.set_cons_succ]
            refine' wpAnyH_take (i := 5) (oi := { dst := some 24, op := Go.Op.move (Go.Operand.tmp 29), type := 73, pos := "l1_big.go:158", after := #[{ on := 4, ground := Go.Ground.data }], guard := none }) (v := _) rfl (by kernel_rfl) (by kernel_rfl) (by kernel_rfl) (fun _ _ _ h => h) (Or.inl ⟨by rfl, ?y5_3⟩) (by assumption) ?r5_3
            case y5_3 => (intro w hSw; (try dsimp only at hSw); go_simp; (try with_reducible rfl))
            try simp only [Act.put, List.setIfInBounds_toArray, List.set_cons_succ]
            refine' wpAnyH_take (i := 6) (oi := { dst := some 30, op := Go.Op.extract (Go.Operand.tmp 24) 0, type := 63, pos := "l1_big.go:158", after := #[{ on := 5, ground := Go.Ground.data }], guard := none }) (v := _) rfl (by kernel_rfl) (by kernel_rfl) (by kernel_rfl) (fun _ _ _ h => h) (Or.inl ⟨by rfl, ?y6_3⟩) (by assumption) ?r6_3
            case y6_3 => (intro w hSw; (try dsimp only at hSw); go_simp; (try with_reducible rfl))
            try simp only [Act.put, List.setIfInBounds_toArray, List.set_cons_succ]
            refine' wpAnyH_take (i := 7) (oi := { dst := some 31, op := Go.Op.extract (Go.Operand.tmp 24) 1, type := 63, pos := "l1_big.go:158", after := #[{ on := 5, ground := Go.Ground.data }, { on := 10, ground := Go.Ground.gcOnly Go.Departure.lateStores }], guard := none }) (v := _) rfl (by kernel_rfl) (by kernel_rfl) (by kernel_rfl) (fun _ _ _ h => h) (Or.inl ⟨by rfl, ?y7_3⟩) (by assumption) ?r7_3
            case y7_3 => (intro w hSw; (try dsimp only at hSw); go_simp; (try with_reducible rfl))
            try simp only [Act.put, List.setIfInBounds_toArray, List.set_cons_succ]
            refine wpAnyH_ready (rs := [10]) (by kernel_rfl) (by simp) ?_
            refine AllReadyH.cons (o := { dst := none, op := Go.Op.store 63 (Go.Operand.tmp 6) (Go.Operand.tmp 30), type := 0, pos := "l1_big.go:158", after := #[{ on := 8, ground := Go.Ground.data }, { on := 6, ground := Go.Ground.data }, { on := 4, ground := Go.Ground.chain }, { on := 0, ground := Go.Ground.phase }, { on := 1, ground := Go.Ground.phase }, { on := 2, ground := Go.Ground.phase }, { on := 3, ground := Go.Ground.phase }, { on := 4, ground := Go.Ground.phase }, { on := 5, ground := Go.Ground.phase }, { on := 6, ground := Go.Ground.phase }, { on := 7, ground := Go.Ground.textOnly Go.Departure.lateStores }, { on := 8, ground := Go.Ground.phase }, { on := 9, ground := Go.Ground.phase }], guard := none }) rfl (fun K hK => ?_) AllReadyH.nil
            rw [if_pos (by rfl)]
            refine wp_store63 (.tmp 6) (.tmp 30) b6 _ _ _ _ qs hq m6 rfl rfl rfl ?_
            intro w10 k10 o10
            have m7' := m7.only o10 (by omega)
            have b10 := c4.trans (o10.below (by omega))
            refine hK.out _ _ ⟨(hxa.next b10).c1, (b10.block _ hbd).trans hd1, b10⟩ (fun hHeld10 => ?_)
            clear hK K
            try simp only [Act.put]
            refine wpAnyH_ready (rs := [11]) (by kernel_rfl) (by simp) ?_
            refine AllReadyH.cons (o := { dst := none, op := Go.Op.store 63 (Go.Operand.tmp 7) (Go.Operand.tmp 31), type := 0, pos := "l1_big.go:158", after := #[{ on := 9, ground := Go.Ground.data }, { on := 7, ground := Go.Ground.data }, { on := 10, ground := Go.Ground.chain }, { on := 0, ground := Go.Ground.phase }, { on := 1, ground := Go.Ground.phase }, { on := 2, ground := Go.Ground.phase }, { on := 3, ground := Go.Ground.phase }, { on := 4, ground := Go.Ground.phase }, { on := 5, ground := Go.Ground.phase }, { on := 6, ground := Go.Ground.phase }, { on := 7, ground := Go.Ground.phase }, { on := 8, ground := Go.Ground.phase }, { on := 9, ground := Go.Ground.phase }, { on := 10, ground := Go.Ground.phase }], guard := none }) rfl (fun K hK => ?_) AllReadyH.nil
            rw [if_pos (by rfl)]
            refine wp_store63 (.tmp 7) (.tmp 31) b7 _ _ _ _ rs hr m7' rfl rfl rfl ?_
            intro w11 k11 o11
            have b11 := b10.trans (o11.below (by omega))
            refine hK.out _ _ ⟨(hxa.next b11).c1, (b11.block _ hbd).trans hd1, b11⟩ (fun hHeld11 => ?_)
            clear hK K
            try simp only [Act.put]
            refine wpAnyH_done (by kernel_rfl) ?_ _
            go_wp2_with fail
            go_meet
            case rel => exact ⟨b6, b7, _, _, _, _, rfl, rfl, l6, l7, n67, k10.only o11 (by omega), nQ, k11, nR, b11⟩
          exact AllReadyH.nil
        exact AllReadyH.nil
      refine AllReadyH.cons (o := { dst := some 7, op := Go.Op.alloc 63, type := 0, pos := "l1_big.go:158", after := #[], guard := none }) rfl (fun K hK => ?_) ?_
      ·
        rw [if_pos (by rfl)]
        refine wp_alloc63 7 rfl rfl ?_
        intro w9 y9 m7 hb9
        obtain ⟨b7, hB9⟩ : ∃ b, b = w2.heap.size := ⟨_, rfl⟩
        rw [← hB9] at m7 y9 ⊢
        have l7 : W.heap.size ≤ b7 := by rw [hB9]; exact c2.size
        clear hB9 y9
        have z9 := c2.size
        have c9 := c2.trans (hb9.mono z9)
        refine hK.out _ _ ⟨(hxa.next c9).c1, (c9.block _ hbd).trans hd1, c9⟩ (fun hHeld9 => ?_)
        clear hK K
        try simp only [Act.put, List.setIfInBounds_toArray, List.set_cons_succ]
        refine wpAnyH_ready (rs := [4, 8]) (by kernel_rfl) (by simp) ?_
        refine AllReadyH.cons (o := { dst := some 29, op := Go.Op.call { callee := Go.Callee.value (Go.Operand.func 62), args := #[Go.Operand.tmp 27, Go.Operand.tmp 28], argTypes := #[63, 63] }, type := 73, pos := "l1_big.go:158", after := #[{ on := 2, ground := Go.Ground.data }, { on := 3, ground := Go.Ground.data }, { on := 2, ground := Go.Ground.chain }], guard := none }) rfl (fun K hK => ?_) ?_
        ·
          go_simp
          refine (sizes_any us ds n n' A.natAbs B.natAbs _ _ _ hus hd2 NA.norm NB.norm hp (by omega)).mono ?_
          rintro e w4 ⟨qs, rs, nq, nr, fq, fr, rfl, hq, nQ, hr, nR, hb4⟩
          have y4 := hb4.size
          have m7 := m7.below hb4 m7.lt
          have z4 := c9.size
          have c4 := c9.trans (hb4.mono z4)
          go_wp2_with fail
          refine hK.out _ _ ⟨(hxa.next c4).c1, (c4.block _ hbd).trans hd1, c4⟩ (fun hHeld4 => ?_)
          clear hK K
          try simp only [Act.put, List.setIfInBounds_toArray, List.set_cons_succ]
          refine' wpAnyH_take (i := 5) (oi := { dst := some 24, op := Go.Op.move (Go.Operand.tmp 29), type := 73, pos := "l1_big.go:158", after := #[{ on := 4, ground := Go.Ground.data }], guard := none }) (v := _) rfl (by kernel_rfl) (by kernel_rfl) (by kernel_rfl) (fun _ _ _ h => h) (Or.inl ⟨by rfl, ?y5_4⟩) (by assumption) ?r5_4
          case y5_4 => (intro w hSw; (try dsimp only at hSw); go_simp; (try with_reducible rfl))
          try simp only [Act.put, List.setIfInBounds_toArray, List.set_cons_succ]
          refine' wpAnyH_take (i := 6) (oi := { dst := some 30, op := Go.Op.extract (Go.Operand.tmp 24) 0, type := 63, pos := "l1_big.go:158", after := #[{ on := 5, ground := Go.Ground.data }], guard := none }) (v := _) rfl (by kernel_rfl) (by kernel_rfl) (by kernel_rfl) (fun _ _ _ h => h) (Or.inl ⟨by rfl, ?y6_4⟩) (by assumption) ?r6_4
          case y6_4 => (intro w hSw; (try dsimp only at hSw); go_simp; (try with_reducible rfl))
          try simp only [Act.put, List.setIfInBounds_toArray, List.set_cons_succ]
          refine' wpAnyH_take (i := 7) (oi := { dst := some 31, op := Go.Op.extract (Go.Operand.tmp 24) 1, type := 63, pos := "l1_big.go:158", after := #[{ on := 5, ground := Go.Ground.data }, { on := 10, ground := Go.Ground.gcOnly Go.Departure.lateStores }], guard := none }) (v := _) rfl (by kernel_rfl) (by kernel_rfl) (by kernel_rfl) (fun _ _ _ h => h) (Or.inl ⟨by rfl, ?y7_4⟩) (by assumption) ?r7_4
          case y7_4 => (intro w hSw; (try dsimp only at hSw); go_simp; (try with_reducible rfl))
          try simp only [Act.put, List.setIfInBounds_toArray, List.set_cons_succ]
          refine wpAnyH_ready (rs := [8]) (by kernel_rfl) (by simp) ?_
          refine AllReadyH.cons (o := { dst := some 6, op := Go.Op.alloc 63, type := 0, pos := "l1_big.go:158", after := #[], guard := none }) rfl (fun K hK => ?_) ?_
          ·
            rw [if_pos (by rfl)]
            refine wp_alloc63 6 rfl rfl ?_
            intro w8 y8 m6 hb8
            obtain ⟨b6, hB8⟩ : ∃ b, b = w4.heap.size := ⟨_, rfl⟩
            rw [← hB8] at m6 y8 ⊢
            have l6 : W.heap.size ≤ b6 := by rw [hB8]; exact c4.size
            have n67 : b6 ≠ b7 := by have q := m7.lt; omega
            clear hB8 y8
            have m7 := m7.below hb8 m7.lt
            have z8 := c4.size
            have c8 := c4.trans (hb8.mono z8)
            refine hK.out _ _ ⟨(hxa.next c8).c1, (c8.block _ hbd).trans hd1, c8⟩ (fun hHeld8 => ?_)
            clear hK K
            try simp only [Act.put, List.setIfInBounds_toArray, List.set_cons_succ]
            refine wpAnyH_ready (rs := [10]) (by kernel_rfl) (by simp) ?_
            refine AllReadyH.cons (o := { dst := none, op := Go.Op.store 63 (Go.Operand.tmp 6) (Go.Operand.tmp 30), type := 0, pos := "l1_big.go:158", after := #[{ on := 8, ground := Go.Ground.data }, { on := 6, ground := Go.Ground.data }, { on := 4, ground := Go.Ground.chain }, { on := 0, ground := Go.Ground.phase }, { on := 1, ground := Go.Ground.phase }, { on := 2, ground := Go.Ground.phase }, { on := 3, ground := Go.Ground.phase }, { on := 4, ground := Go.Ground.phase }, { on := 5, ground := Go.Ground.phase }, { on := 6, ground := Go.Ground.phase }, { on := 7, ground := Go.Ground.textOnly Go.Departure.lateStores }, { on := 8, ground := Go.Ground.phase }, { on := 9, ground := Go.Ground.phase }], guard := none }) rfl (fun K hK => ?_) AllReadyH.nil
            rw [if_pos (by rfl)]
            refine wp_store63 (.tmp 6) (.tmp 30) b6 _ _ _ _ qs hq m6 rfl rfl rfl ?_
            intro w10 k10 o10
            have m7' := m7.only o10 (by omega)
            have b10 := c8.trans (o10.below (by omega))
            refine hK.out _ _ ⟨(hxa.next b10).c1, (b10.block _ hbd).trans hd1, b10⟩ (fun hHeld10 => ?_)
            clear hK K
            try simp only [Act.put]
            refine wpAnyH_ready (rs := [11]) (by kernel_rfl) (by simp) ?_
            refine AllReadyH.cons (o := { dst := none, op := Go.Op.store 63 (Go.Operand.tmp 7) (Go.Operand.tmp 31), type := 0, pos := "l1_big.go:158", after := #[{ on := 9, ground := Go.Ground.data }, { on := 7, ground := Go.Ground.data }, { on := 10, ground := Go.Ground.chain }, { on := 0, ground := Go.Ground.phase }, { on := 1, ground := Go.Ground.phase }, { on := 2, ground := Go.Ground.phase }, { on := 3, ground := Go.Ground.phase }, { on := 4, ground := Go.Ground.phase }, { on := 5, ground := Go.Ground.phase }, { on := 6, ground := Go.Ground.phase }, { on := 7, ground := Go.Ground.phase }, { on := 8, ground := Go.Ground.phase }, { on := 9, ground := Go.Ground.phase }, { on := 10, ground := Go.Ground.phase }], guard := none }) rfl (fun K hK => ?_) AllReadyH.nil
            rw [if_pos (by rfl)]
            refine wp_store63 (.tmp 7) (.tmp 31) b7 _ _ _ _ rs hr m7' rfl rfl rfl ?_
            intro w11 k11 o11
            have b11 := b10.trans (o11.below (by omega))
            refine hK.out _ _ ⟨(hxa.next b11).c1, (b11.block _ hbd).trans hd1, b11⟩ (fun hHeld11 => ?_)
            clear hK K
            try simp only [Act.put]
            refine wpAnyH_done (by kernel_rfl) ?_ _
            go_wp2_with fail
            go_meet
            case rel => exact ⟨b6, b7, _, _, _, _, rfl, rfl, l6, l7, n67, k10.only o11 (by omega), nQ, k11, nR, b11⟩
          exact AllReadyH.nil
        refine AllReadyH.cons (o := { dst := some 6, op := Go.Op.alloc 63, type := 0, pos := "l1_big.go:158", after := #[], guard := none }) rfl (fun K hK => ?_) ?_
        ·
          rw [if_pos (by rfl)]
          refine wp_alloc63 6 rfl rfl ?_
          intro w8 y8 m6 hb8
          obtain ⟨b6, hB8⟩ : ∃ b, b = w9.heap.size := ⟨_, rfl⟩
          rw [← hB8] at m6 y8 ⊢
          have l6 : W.heap.size ≤ b6 := by rw [hB8]; exact c9.size
          have n67 : b6 ≠ b7 := by have q := m7.lt; omega
          clear hB8 y8
          have m7 := m7.below hb8 m7.lt
          have z8 := c9.size
          have c8 := c9.trans (hb8.mono z8)
          refine hK.out _ _ ⟨(hxa.next c8).c1, (c8.block _ hbd).trans hd1, c8⟩ (fun hHeld8 => ?_)
          clear hK K
          try simp only [Act.put, List.setIfInBounds_toArray, List.set_cons_succ]
          refine wpAnyH_ready (rs := [4]) (by kernel_rfl) (by simp) ?_
          refine AllReadyH.cons (o := { dst := some 29, op := Go.Op.call { callee := Go.Callee.value (Go.Operand.func 62), args := #[Go.Operand.tmp 27, Go.Operand.tmp 28], argTypes := #[63, 63] }, type := 73, pos := "l1_big.go:158", after := #[{ on := 2, ground := Go.Ground.data }, { on := 3, ground := Go.Ground.data }, { on := 2, ground := Go.Ground.chain }], guard := none }) rfl (fun K hK => ?_) ?_
          ·
            go_simp
            refine (sizes_any us ds n n' A.natAbs B.natAbs _ _ _ hus hd2 NA.norm NB.norm hp (by omega)).mono ?_
            rintro e w4 ⟨qs, rs, nq, nr, fq, fr, rfl, hq, nQ, hr, nR, hb4⟩
            have y4 := hb4.size
            have m6 := m6.below hb4 m6.lt
            have m7 := m7.below hb4 m7.lt
            have z4 := c8.size
            have c4 := c8.trans (hb4.mono z4)
            go_wp2_with fail
            refine hK.out _ _ ⟨(hxa.next c4).c1, (c4.block _ hbd).trans hd1, c4⟩ (fun hHeld4 => ?_)
            clear hK K
            try simp only [Act.put, List.setIfInBounds_toArray, List.set_cons_succ]
            refine' wpAnyH_take (i := 5) (oi := { dst := some 24, op := Go.Op.move (Go.Operand.tmp 29), type := 73, pos := "l1_big.go:158", after := #[{ on := 4, ground := Go.Ground.data }], guard := none }) (v := _) rfl (by kernel_rfl) (by kernel_rfl) (by kernel_rfl) (fun _ _ _ h => h) (Or.inl ⟨by rfl, ?y5_5⟩) (by assumption) ?r5_5
            case y5_5 => (intro w hSw; (try dsimp only at hSw); go_simp; (try with_reducible rfl))
            try simp only [Act.put, List.setIfInBounds_toArray, List.set_cons_succ]
            refine' wpAnyH_take (i := 6) (oi := { dst := some 30, op := Go.Op.extract (Go.Operand.tmp 24) 0, type := 63, pos := "l1_big.go:158", after := #[{ on := 5, ground := Go.Ground.data }], guard := none }) (v := _) rfl (by kernel_rfl) (by kernel_rfl) (by kernel_rfl) (fun _ _ _ h => h) (Or.inl ⟨by rfl, ?y6_5⟩) (by assumption) ?r6_5
            case y6_5 => (intro w hSw; (try dsimp only at hSw); go_simp; (try with_reducible rfl))
            try simp only [Act.put, List.setIfInBounds_toArray, List.set_cons_succ]
            refine' wpAnyH_take (i := 7) (oi := { dst := some 31, op := Go.Op.extract (Go.Operand.tmp 24) 1, type := 63, pos := "l1_big.go:158", after := #[{ on := 5, ground := Go.Ground.data }, { on := 10, ground := Go.Ground.gcOnly Go.Departure.lateStores }], guard := none }) (v := _) rfl (by kernel_rfl) (by kernel_rfl) (by kernel_rfl) (fun _ _ _ h => h) (Or.inl ⟨by rfl, ?y7_5⟩) (by assumption) ?r7_5
            case y7_5 => (intro w hSw; (try dsimp only at hSw); go_simp; (try with_reducible rfl))
            try simp only [Act.put, List.setIfInBounds_toArray, List.set_cons_succ]
            refine wpAnyH_ready (rs := [10]) (by kernel_rfl) (by simp) ?_
            refine AllReadyH.cons (o := { dst := none, op := Go.Op.store 63 (Go.Operand.tmp 6) (Go.Operand.tmp 30), type := 0, pos := "l1_big.go:158", after := #[{ on := 8, ground := Go.Ground.data }, { on := 6, ground := Go.Ground.data }, { on := 4, ground := Go.Ground.chain }, { on := 0, ground := Go.Ground.phase }, { on := 1, ground := Go.Ground.phase }, { on := 2, ground := Go.Ground.phase }, { on := 3, ground := Go.Ground.phase }, { on := 4, ground := Go.Ground.phase }, { on := 5, ground := Go.Ground.phase }, { on := 6, ground := Go.Ground.phase }, { on := 7, ground := Go.Ground.textOnly Go.Departure.lateStores }, { on := 8, ground := Go.Ground.phase }, { on := 9, ground := Go.Ground.phase }], guard := none }) rfl (fun K hK => ?_) AllReadyH.nil
            rw [if_pos (by rfl)]
            refine wp_store63 (.tmp 6) (.tmp 30) b6 _ _ _ _ qs hq m6 rfl rfl rfl ?_
            intro w10 k10 o10
            have m7' := m7.only o10 (by omega)
            have b10 := c4.trans (o10.below (by omega))
            refine hK.out _ _ ⟨(hxa.next b10).c1, (b10.block _ hbd).trans hd1, b10⟩ (fun hHeld10 => ?_)
            clear hK K
            try simp only [Act.put]
            refine wpAnyH_ready (rs := [11]) (by kernel_rfl) (by simp) ?_
            refine AllReadyH.cons (o := { dst := none, op := Go.Op.store 63 (Go.Operand.tmp 7) (Go.Operand.tmp 31), type := 0, pos := "l1_big.go:158", after := #[{ on := 9, ground := Go.Ground.data }, { on := 7, ground := Go.Ground.data }, { on := 10, ground := Go.Ground.chain }, { on := 0, ground := Go.Ground.phase }, { on := 1, ground := Go.Ground.phase }, { on := 2, ground := Go.Ground.phase }, { on := 3, ground := Go.Ground.phase }, { on := 4, ground := Go.Ground.phase }, { on := 5, ground := Go.Ground.phase }, { on := 6, ground := Go.Ground.phase }, { on := 7, ground := Go.Ground.phase }, { on := 8, ground := Go.Ground.phase }, { on := 9, ground := Go.Ground.phase }, { on := 10, ground := Go.Ground.phase }], guard := none }) rfl (fun K hK => ?_) AllReadyH.nil
            rw [if_pos (by rfl)]
            refine wp_store63 (.tmp 7) (.tmp 31) b7 _ _ _ _ rs hr m7' rfl rfl rfl ?_
            intro w11 k11 o11
            have b11 := b10.trans (o11.below (by omega))
            refine hK.out _ _ ⟨(hxa.next b11).c1, (b11.block _ hbd).trans hd1, b11⟩ (fun hHeld11 => ?_)
            clear hK K
            try simp only [Act.put]
            refine wpAnyH_done (by kernel_rfl) ?_ _
            go_wp2_with fail
            go_meet
            case rel => exact ⟨b6, b7, _, _, _, _, rfl, rfl, l6, l7, n67, k10.only o11 (by omega), nQ, k11, nR, b11⟩
          exact AllReadyH.nil
        exact AllReadyH.nil
      exact AllReadyH.nil
    refine AllReadyH.cons (o := { dst := some 6, op := Go.Op.alloc 63, type := 0, pos := "l1_big.go:158", after := #[], guard := none }) rfl (fun K hK => ?_) ?_
    ·
      rw [if_pos (by rfl)]
      refine wp_alloc63 6 rfl rfl ?_
      intro w8 y8 m6 hb8
      obtain ⟨b6, hB8⟩ : ∃ b, b = W.drew.heap.size := ⟨_, rfl⟩
      rw [← hB8] at m6 y8 ⊢
      have l6 : W.heap.size ≤ b6 := by rw [hB8]; exact bD0.size
      clear hB8 y8
      have z8 := bD0.size
      have c8 := bD0.trans (hb8.mono z8)
      refine hK.out _ _ ⟨(hxa.next c8).c1, (c8.block _ hbd).trans hd1, c8⟩ (fun hHeld8 => ?_)
      clear hK K
      try simp only [Act.put, List.setIfInBounds_toArray, List.set_cons_succ]
      refine wpAnyH_ready (rs := [2, 9]) (by kernel_rfl) (by simp) ?_
      refine AllReadyH.cons (o := { dst := some 27, op := Go.Op.call { callee := Go.Callee.value (Go.Operand.func 54), args := #[Go.Operand.tmp 26], argTypes := #[23] }, type := 63, pos := "l1_big.go:158", after := #[{ on := 1, ground := Go.Ground.data }], guard := none }) rfl (fun K hK => ?_) ?_
      ·
        go_simp
        refine (magOf_any _ n f _ (NA.lim.below c8) (by omega)).mono ?_
        rintro e w2 ⟨us, rfl, hus, hb2⟩
        have y2 := hb2.size
        have m6 := m6.below hb2 m6.lt
        have z2 := c8.size
        have c2 := c8.trans (hb2.mono z2)
        go_wp2_with fail
        refine hK.out _ _ ⟨(hxa.next c2).c1, (c2.block _ hbd).trans hd1, c2⟩ (fun hHeld2 => ?_)
        clear hK K
        try simp only [Act.put, List.setIfInBounds_toArray, List.set_cons_succ]
        refine wpAnyH_ready (rs := [4, 9]) (by kernel_rfl) (by simp) ?_
        refine AllReadyH.cons (o := { dst := some 29, op := Go.Op.call { callee := Go.Callee.value (Go.Operand.func 62), args := #[Go.Operand.tmp 27, Go.Operand.tmp 28], argTypes := #[63, 63] }, type := 73, pos := "l1_big.go:158", after := #[{ on := 2, ground := Go.Ground.data }, { on := 3, ground := Go.Ground.data }, { on := 2, ground := Go.Ground.chain }], guard := none }) rfl (fun K hK => ?_) ?_
        ·
          go_simp
          refine (sizes_any us ds n n' A.natAbs B.natAbs _ _ _ hus hd2 NA.norm NB.norm hp (by omega)).mono ?_
          rintro e w4 ⟨qs, rs, nq, nr, fq, fr, rfl, hq, nQ, hr, nR, hb4⟩
          have y4 := hb4.size
          have m6 := m6.below hb4 m6.lt
          have z4 := c2.size
          have c4 := c2.trans (hb4.mono z4)
          go_wp2_with fail
          refine hK.out _ _ ⟨(hxa.next c4).c1, (c4.block _ hbd).trans hd1, c4⟩ (fun hHeld4 => ?_)
          clear hK K
          try simp only [Act.put, List.setIfInBounds_toArray, List.set_cons_succ]
          refine' wpAnyH_take (i := 5) (oi := { dst := some 24, op := Go.Op.move (Go.Operand.tmp 29), type := 73, pos := "l1_big.go:158", after := #[{ on := 4, ground := Go.Ground.data }], guard := none }) (v := _) rfl (by kernel_rfl) (by kernel_rfl) (by kernel_rfl) (fun _ _ _ h => h) (Or.inl ⟨by rfl, ?y5_6⟩) (by assumption) ?r5_6
          case y5_6 => (intro w hSw; (try dsimp only at hSw); go_simp; (try with_reducible rfl))
          try simp only [Act.put, List.setIfInBounds_toArray, List.set_cons_succ]
          refine' wpAnyH_take (i := 6) (oi := { dst := some 30, op := Go.Op.extract (Go.Operand.tmp 24) 0, type := 63, pos := "l1_big.go:158", after := #[{ on := 5, ground := Go.Ground.data }], guard := none }) (v := _) rfl (by kernel_rfl) (by kernel_rfl) (by kernel_rfl) (fun _ _ _ h => h) (Or.inl ⟨by rfl, ?y6_6⟩) (by assumption) ?r6_6
          case y6_6 => (intro w hSw; (try dsimp only at hSw); go_simp; (try with_reducible rfl))
          try simp only [Act.put, List.setIfInBounds_toArray, List.set_cons_succ]
          refine' wpAnyH_take (i := 7) (oi := { dst := some 31, op := Go.Op.extract (Go.Operand.tmp 24) 1, type := 63, pos := "l1_big.go:158", after := #[{ on := 5, ground := Go.Ground.data }, { on := 10, ground := Go.Ground.gcOnly Go.Departure.lateStores }], guard := none }) (v := _) rfl (by kernel_rfl) (by kernel_rfl) (by kernel_rfl) (fun _ _ _ h => h) (Or.inl ⟨by rfl, ?y7_6⟩) (by assumption) ?r7_6
          case y7_6 => (intro w hSw; (try dsimp only at hSw); go_simp; (try with_reducible rfl))
          try simp only [Act.put, List.setIfInBounds_toArray, List.set_cons_succ]
          refine wpAnyH_ready (rs := [9]) (by kernel_rfl) (by simp) ?_
          refine AllReadyH.cons (o := { dst := some 7, op := Go.Op.alloc 63, type := 0, pos := "l1_big.go:158", after := #[], guard := none }) rfl (fun K hK => ?_) ?_
          ·
            rw [if_pos (by rfl)]
            refine wp_alloc63 7 rfl rfl ?_
            intro w9 y9 m7 hb9
            obtain ⟨b7, hB9⟩ : ∃ b, b = w4.heap.size := ⟨_, rfl⟩
            rw [← hB9] at m7 y9 ⊢
            have l7 : W.heap.size ≤ b7 := by rw [hB9]; exact c4.size
            have n67 : b6 ≠ b7 := by have q := m6.lt; omega
            clear hB9 y9
            have m6 := m6.below hb9 m6.lt
            have z9 := c4.size
            have c9 := c4.trans (hb9.mono z9)
            refine hK.out _ _ ⟨(hxa.next c9).c1, (c9.block _ hbd).trans hd1, c9⟩ (fun hHeld9 => ?_)
            clear hK K
            try simp only [Act.put, List.setIfInBounds_toArray, List.set_cons_succ]
            refine wpAnyH_ready (rs := [10]) (by kernel_rfl) (by simp) ?_
            refine AllReadyH.cons (o := { dst := none, op := Go.Op.store 63 (Go.Operand.tmp 6) (Go.Operand.tmp 30), type := 0, pos := "l1_big.go:158", after := #[{ on := 8, ground := Go.Ground.data }, { on := 6, ground := Go.Ground.data }, { on := 4, ground := Go.Ground.chain }, { on := 0, ground := Go.Ground.phase }, { on := 1, ground := Go.Ground.phase }, { on := 2, ground := Go.Ground.phase }, { on := 3, ground := Go.Ground.phase }, { on := 4, ground := Go.Ground.phase }, { on := 5, ground := Go.Ground.phase }, { on := 6, ground := Go.Ground.phase }, { on := 7, ground := Go.Ground.textOnly Go.Departure.lateStores }, { on := 8, ground := Go.Ground.phase }, { on := 9, ground := Go.Ground.phase }], guard := none }) rfl (fun K hK => ?_) AllReadyH.nil
            rw [if_pos (by rfl)]
            refine wp_store63 (.tmp 6) (.tmp 30) b6 _ _ _ _ qs hq m6 rfl rfl rfl ?_
            intro w10 k10 o10
            have m7' := m7.only o10 (by omega)
            have b10 := c9.trans (o10.below (by omega))
            refine hK.out _ _ ⟨(hxa.next b10).c1, (b10.block _ hbd).trans hd1, b10⟩ (fun hHeld10 => ?_)
            clear hK K
            try simp only [Act.put]
            refine wpAnyH_ready (rs := [11]) (by kernel_rfl) (by simp) ?_
            refine AllReadyH.cons (o := { dst := none, op := Go.Op.store 63 (Go.Operand.tmp 7) (Go.Operand.tmp 31), type := 0, pos := "l1_big.go:158", after := #[{ on := 9, ground := Go.Ground.data }, { on := 7, ground := Go.Ground.data }, { on := 10, ground := Go.Ground.chain }, { on := 0, ground := Go.Ground.phase }, { on := 1, ground := Go.Ground.phase }, { on := 2, ground := Go.Ground.phase }, { on := 3, ground := Go.Ground.phase }, { on := 4, ground := Go.Ground.phase }, { on := 5, ground := Go.Ground.phase }, { on := 6, ground := Go.Ground.phase }, { on := 7, ground := Go.Ground.phase }, { on := 8, ground := Go.Ground.phase }, { on := 9, ground := Go.Ground.phase }, { on := 10, ground := Go.Ground.phase }], guard := none }) rfl (fun K hK => ?_) AllReadyH.nil
            rw [if_pos (by rfl)]
            refine wp_store63 (.tmp 7) (.tmp 31) b7 _ _ _ _ rs hr m7' rfl rfl rfl ?_
            intro w11 k11 o11
            have b11 := b10.trans (o11.below (by omega))
            refine hK.out _ _ ⟨(hxa.next b11).c1, (b11.block _ hbd).trans hd1, b11⟩ (fun hHeld11 => ?_)
            clear hK K
            try simp only [Act.put]
            refine wpAnyH_done (by kernel_rfl) ?_ _
            go_wp2_with fail
            go_meet
            case rel => exact ⟨b6, b7, _, _, _, _, rfl, rfl, l6, l7, n67, k10.only o11 (by omega), nQ, k11, nR, b11⟩
          exact AllReadyH.nil
        refine AllReadyH.cons (o := { dst := some 7, op := Go.Op.alloc 63, type := 0, pos := "l1_big.go:158", after := #[], guard := none }) rfl (fun K hK => ?_) ?_
        ·
          rw [if_pos (by rfl)]
          refine wp_alloc63 7 rfl rfl ?_
          intro w9 y9 m7 hb9
          obtain ⟨b7, hB9⟩ : ∃ b, b = w2.heap.size := ⟨_, rfl⟩
          rw [← hB9] at m7 y9 ⊢
          have l7 : W.heap.size ≤ b7 := by rw [hB9]; exact c2.size
          have n67 : b6 ≠ b7 := by have q := m6.lt; omega
          clear hB9 y9
          have m6 := m6.below hb9 m6.lt
          have z9 := c2.size
          have c9 := c2.trans (hb9.mono z9)
          refine hK.out _ _ ⟨(hxa.next c9).c1, (c9.block _ hbd).trans hd1, c9⟩ (fun hHeld9 => ?_)
          clear hK K
          try simp only [Act.put, List.setIfInBounds_toArray, List.set_cons_succ]
          refine wpAnyH_ready (rs := [4]) (by kernel_rfl) (by simp) ?_
          refine AllReadyH.cons (o := { dst := some 29, op := Go.Op.call { callee := Go.Callee.value (Go.Operand.func 62), args := #[Go.Operand.tmp 27, Go.Operand.tmp 28], argTypes := #[63, 63] }, type := 73, pos := "l1_big.go:158", after := #[{ on := 2, ground := Go.Ground.data }, { on := 3, ground := Go.Ground.data }, { on := 2, ground := Go.Ground.chain }], guard := none }) rfl (fun K hK => ?_) ?_
          ·
            go_simp
            refine (sizes_any us ds n n' A.natAbs B.natAbs _ _ _ hus hd2 NA.norm NB.norm hp (by omega)).mono ?_
            rintro e w4 ⟨qs, rs, nq, nr, fq, fr, rfl, hq, nQ, hr, nR, hb4⟩
            have y4 := hb4.size
            have m6 := m6.below hb4 m6.lt
            have m7 := m7.below hb4 m7.lt
            have z4 := c9.size
            have c4 := c9.trans (hb4.mono z4)
            go_wp2_with fail
            refine hK.out _ _ ⟨(hxa.next c4).c1, (c4.block _ hbd).trans hd1, c4⟩ (fun hHeld4 => ?_)
            clear hK K
            try simp only [Act.put, List.setIfInBounds_toArray, List.set_cons_succ]
            refine' wpAnyH_take (i := 5) (oi := { dst := some 24, op := Go.Op.move (Go.Operand.tmp 29), type := 73, pos := "l1_big.go:158", after := #[{ on := 4, ground := Go.Ground.data }], guard := none }) (v := _) rfl (by kernel_rfl) (by kernel_rfl) (by kernel_rfl) (fun _ _ _ h => h) (Or.inl ⟨by rfl, ?y5_7⟩) (by assumption) ?r5_7
            case y5_7 => (intro w hSw; (try dsimp only at hSw); go_simp; (try with_reducible rfl))
            try simp only [Act.put, List.setIfInBounds_toArray, List.set_cons_succ]
            refine' wpAnyH_take (i := 6) (oi := { dst := some 30, op := Go.Op.extract (Go.Operand.tmp 24) 0, type := 63, pos := "l1_big.go:158", after := #[{ on := 5, ground := Go.Ground.data }], guard := none }) (v := _) rfl (by kernel_rfl) (by kernel_rfl) (by kernel_rfl) (fun _ _ _ h => h) (Or.inl ⟨by rfl, ?y6_7⟩) (by assumption) ?r6_7
            case y6_7 => (intro w hSw; (try dsimp only at hSw); go_simp; (try with_reducible rfl))
            try simp only [Act.put, List.setIfInBounds_toArray, List.set_cons_succ]
            refine' wpAnyH_take (i := 7) (oi := { dst := some 31, op := Go.Op.extract (Go.Operand.tmp 24) 1, type := 63, pos := "l1_big.go:158", after := #[{ on := 5, ground := Go.Ground.data }, { on := 10, ground := Go.Ground.gcOnly Go.Departure.lateStores }], guard := none }) (v := _) rfl (by kernel_rfl) (by kernel_rfl) (by kernel_rfl) (fun _ _ _ h => h) (Or.inl ⟨by rfl, ?y7_7⟩) (by assumption) ?r7_7
            case y7_7 => (intro w hSw; (try dsimp only at hSw); go_simp; (try with_reducible rfl))
            try simp only [Act.put, List.setIfInBounds_toArray, List.set_cons_succ]
            refine wpAnyH_ready (rs := [10]) (by kernel_rfl) (by simp) ?_
            refine AllReadyH.cons (o := { dst := none, op := Go.Op.store 63 (Go.Operand.tmp 6) (Go.Operand.tmp 30), type := 0, pos := "l1_big.go:158", after := #[{ on := 8, ground := Go.Ground.data }, { on := 6, ground := Go.Ground.data }, { on := 4, ground := Go.Ground.chain }, { on := 0, ground := Go.Ground.phase }, { on := 1, ground := Go.Ground.phase }, { on := 2, ground := Go.Ground.phase }, { on := 3, ground := Go.Ground.phase }, { on := 4, ground := Go.Ground.phase }, { on := 5, ground := Go.Ground.phase }, { on := 6, ground := Go.Ground.phase }, { on := 7, ground := Go.Ground.textOnly Go.Departure.lateStores }, { on := 8, ground := Go.Ground.phase }, { on := 9, ground := Go.Ground.phase }], guard := none }) rfl (fun K hK => ?_) AllReadyH.nil
            rw [if_pos (by rfl)]
            refine wp_store63 (.tmp 6) (.tmp 30) b6 _ _ _ _ qs hq m6 rfl rfl rfl ?_
            intro w10 k10 o10
            have m7' := m7.only o10 (by omega)
            have b10 := c4.trans (o10.below (by omega))
            refine hK.out _ _ ⟨(hxa.next b10).c1, (b10.block _ hbd).trans hd1, b10⟩ (fun hHeld10 => ?_)
            clear hK K
            try simp only [Act.put]
            refine wpAnyH_ready (rs := [11]) (by kernel_rfl) (by simp) ?_
            refine AllReadyH.cons (o := { dst := none, op := Go.Op.store 63 (Go.Operand.tmp 7) (Go.Operand.tmp 31), type := 0, pos := "l1_big.go:158", after := #[{ on := 9, ground := Go.Ground.data }, { on := 7, ground := Go.Ground.data }, { on := 10, ground := Go.Ground.chain }, { on := 0, ground := Go.Ground.phase }, { on := 1, ground := Go.Ground.phase }, { on := 2, ground := Go.Ground.phase }, { on := 3, ground := Go.Ground.phase }, { on := 4, ground := Go.Ground.phase }, { on := 5, ground := Go.Ground.phase }, { on := 6, ground := Go.Ground.phase }, { on := 7, ground := Go.Ground.phase }, { on := 8, ground := Go.Ground.phase }, { on := 9, ground := Go.Ground.phase }, { on := 10, ground := Go.Ground.phase }], guard := none }) rfl (fun K hK => ?_) AllReadyH.nil
            rw [if_pos (by rfl)]
            refine wp_store63 (.tmp 7) (.tmp 31) b7 _ _ _ _ rs hr m7' rfl rfl rfl ?_
            intro w11 k11 o11
            have b11 := b10.trans (o11.below (by omega))
            refine hK.out _ _ ⟨(hxa.next b11).c1, (b11.block _ hbd).trans hd1, b11⟩ (fun hHeld11 => ?_)
            clear hK K
            try simp only [Act.put]
            refine wpAnyH_done (by kernel_rfl) ?_ _
            go_wp2_with fail
            go_meet
            case rel => exact ⟨b6, b7, _, _, _, _, rfl, rfl, l6, l7, n67, k10.only o11 (by omega), nQ, k11, nR, b11⟩
          exact AllReadyH.nil
        exact AllReadyH.nil
      refine AllReadyH.cons (o := { dst := some 7, op := Go.Op.alloc 63, type := 0, pos := "l1_big.go:158", after := #[], guard := none }) rfl (fun K hK => ?_) ?_
      ·
        rw [if_pos (by rfl)]
        refine wp_alloc63 7 rfl rfl ?_
        intro w9 y9 m7 hb9
        obtain ⟨b7, hB9⟩ : ∃ b, b = w8.heap.size := ⟨_, rfl⟩
        rw [← hB9] at m7 y9 ⊢
        have l7 : W.heap.size ≤ b7 := by rw [hB9]; exact c8.size
        have n67 : b6 ≠ b7 := by have q := m6.lt; omega
        clear hB9 y9
        have m6 := m6.below hb9 m6.lt
        have z9 := c8.size
        have c9 := c8.trans (hb9.mono z9)
        refine hK.out _ _ ⟨(hxa.next c9).c1, (c9.block _ hbd).trans hd1, c9⟩ (fun hHeld9 => ?_)
        clear hK K
        try simp only [Act.put, List.setIfInBounds_toArray, List.set_cons_succ]
        refine wpAnyH_ready (rs := [2]) (by kernel_rfl) (by simp) ?_
        refine AllReadyH.cons (o := { dst := some 27, op := Go.Op.call { callee := Go.Callee.value (Go.Operand.func 54), args := #[Go.Operand.tmp 26], argTypes := #[23] }, type := 63, pos := "l1_big.go:158", after := #[{ on := 1, ground := Go.Ground.data }], guard := none }) rfl (fun K hK => ?_) ?_
        ·
          go_simp
          refine (magOf_any _ n f _ (NA.lim.below c9) (by omega)).mono ?_
          rintro e w2 ⟨us, rfl, hus, hb2⟩
          have y2 := hb2.size
          have m6 := m6.below hb2 m6.lt
          have m7 := m7.below hb2 m7.lt
          have z2 := c9.size
          have c2 := c9.trans (hb2.mono z2)
          go_wp2_with fail
          refine hK.out _ _ ⟨(hxa.next c2).c1, (c2.block _ hbd).trans hd1, c2⟩ (fun hHeld2 => ?_)
          clear hK K
          try simp only [Act.put, List.setIfInBounds_toArray, List.set_cons_succ]
          refine wpAnyH_ready (rs := [4]) (by kernel_rfl) (by simp) ?_
          refine AllReadyH.cons (o := { dst := some 29, op := Go.Op.call { callee := Go.Callee.value (Go.Operand.func 62), args := #[Go.Operand.tmp 27, Go.Operand.tmp 28], argTypes := #[63, 63] }, type := 73, pos := "l1_big.go:158", after := #[{ on := 2, ground := Go.Ground.data }, { on := 3, ground := Go.Ground.data }, { on := 2, ground := Go.Ground.chain }], guard := none }) rfl (fun K hK => ?_) ?_
          ·
            go_simp
            refine (sizes_any us ds n n' A.natAbs B.natAbs _ _ _ hus hd2 NA.norm NB.norm hp (by omega)).mono ?_
            rintro e w4 ⟨qs, rs, nq, nr, fq, fr, rfl, hq, nQ, hr, nR, hb4⟩
            have y4 := hb4.size
            have m6 := m6.below hb4 m6.lt
            have m7 := m7.below hb4 m7.lt
            have z4 := c2.size
            have c4 := c2.trans (hb4.mono z4)
            go_wp2_with fail
            refine hK.out _ _ ⟨(hxa.next c4).c1, (c4.block _ hbd).trans hd1, c4⟩ (fun hHeld4 => ?_)
            clear hK K
            try simp only [Act.put, List.setIfInBounds_toArray, List.set_cons_succ]
            refine' wpAnyH_take (i := 5) (oi := { dst := some 24, op := Go.Op.move (Go.Operand.tmp 29), type := 73, pos := "l1_big.go:158", after := #[{ on := 4, ground := Go.Ground.data }], guard := none }) (v := _) rfl (by kernel_rfl) (by kernel_rfl) (by kernel_rfl) (fun _ _ _ h => h) (Or.inl ⟨by rfl, ?y5_8⟩) (by assumption) ?r5_8
            case y5_8 => (intro w hSw; (try dsimp only at hSw); go_simp; (try with_reducible rfl))
            try simp only [Act.put, List.setIfInBounds_toArray, List.set_cons_succ]
            refine' wpAnyH_take (i := 6) (oi := { dst := some 30, op := Go.Op.extract (Go.Operand.tmp 24) 0, type := 63, pos := "l1_big.go:158", after := #[{ on := 5, ground := Go.Ground.data }], guard := none }) (v := _) rfl (by kernel_rfl) (by kernel_rfl) (by kernel_rfl) (fun _ _ _ h => h) (Or.inl ⟨by rfl, ?y6_8⟩) (by assumption) ?r6_8
            case y6_8 => (intro w hSw; (try dsimp only at hSw); go_simp; (try with_reducible rfl))
            try simp only [Act.put, List.setIfInBounds_toArray, List.set_cons_succ]
            refine' wpAnyH_take (i := 7) (oi := { dst := some 31, op := Go.Op.extract (Go.Operand.tmp 24) 1, type := 63, pos := "l1_big.go:158", after := #[{ on := 5, ground := Go.Ground.data }, { on := 10, ground := Go.Ground.gcOnly Go.Departure.lateStores }], guard := none }) (v := _) rfl (by kernel_rfl) (by kernel_rfl) (by kernel_rfl) (fun _ _ _ h => h) (Or.inl ⟨by rfl, ?y7_8⟩) (by assumption) ?r7_8
            case y7_8 => (intro w hSw; (try dsimp only at hSw); go_simp; (try with_reducible rfl))
            try simp only [Act.put, List.setIfInBounds_toArray, List.set_cons_succ]
            refine wpAnyH_ready (rs := [10]) (by kernel_rfl) (by simp) ?_
            refine AllReadyH.cons (o := { dst := none, op := Go.Op.store 63 (Go.Operand.tmp 6) (Go.Operand.tmp 30), type := 0, pos := "l1_big.go:158", after := #[{ on := 8, ground := Go.Ground.data }, { on := 6, ground := Go.Ground.data }, { on := 4, ground := Go.Ground.chain }, { on := 0, ground := Go.Ground.phase }, { on := 1, ground := Go.Ground.phase }, { on := 2, ground := Go.Ground.phase }, { on := 3, ground := Go.Ground.phase }, { on := 4, ground := Go.Ground.phase }, { on := 5, ground := Go.Ground.phase }, { on := 6, ground := Go.Ground.phase }, { on := 7, ground := Go.Ground.textOnly Go.Departure.lateStores }, { on := 8, ground := Go.Ground.phase }, { on := 9, ground := Go.Ground.phase }], guard := none }) rfl (fun K hK => ?_) AllReadyH.nil
            rw [if_pos (by rfl)]
            refine wp_store63 (.tmp 6) (.tmp 30) b6 _ _ _ _ qs hq m6 rfl rfl rfl ?_
            intro w10 k10 o10
            have m7' := m7.only o10 (by omega)
            have b10 := c4.trans (o10.below (by omega))
            refine hK.out _ _ ⟨(hxa.next b10).c1, (b10.block _ hbd).trans hd1, b10⟩ (fun hHeld10 => ?_)
            clear hK K
            try simp only [Act.put]
            refine wpAnyH_ready (rs := [11]) (by kernel_rfl) (by simp) ?_
            refine AllReadyH.cons (o := { dst := none, op := Go.Op.store 63 (Go.Operand.tmp 7) (Go.Operand.tmp 31), type := 0, pos := "l1_big.go:158", after := #[{ on := 9, ground := Go.Ground.data }, { on := 7, ground := Go.Ground.data }, { on := 10, ground := Go.Ground.chain }, { on := 0, ground := Go.Ground.phase }, { on := 1, ground := Go.Ground.phase }, { on := 2, ground := Go.Ground.phase }, { on := 3, ground := Go.Ground.phase }, { on := 4, ground := Go.Ground.phase }, { on := 5, ground := Go.Ground.phase }, { on := 6, ground := Go.Ground.phase }, { on := 7, ground := Go.Ground.phase }, { on := 8, ground := Go.Ground.phase }, { on := 9, ground := Go.Ground.phase }, { on := 10, ground := Go.Ground.phase }], guard := none }) rfl (fun K hK => ?_) AllReadyH.nil
            rw [if_pos (by rfl)]
            refine wp_store63 (.tmp 7) (.tmp 31) b7 _ _ _ _ rs hr m7' rfl rfl rfl ?_
            intro w11 k11 o11
            have b11 := b10.trans (o11.below (by omega))
            refine hK.out _ _ ⟨(hxa.next b11).c1, (b11.block _ hbd).trans hd1, b11⟩ (fun hHeld11 => ?_)
            clear hK K
            try simp only [Act.put]
            refine wpAnyH_done (by kernel_rfl) ?_ _
            go_wp2_with fail
            go_meet
            case rel => exact ⟨b6, b7, _, _, _, _, rfl, rfl, l6, l7, n67, k10.only o11 (by omega), nQ, k11, nR, b11⟩
          exact AllReadyH.nil
        exact AllReadyH.nil
      exact AllReadyH.nil
    refine AllReadyH.cons (o := { dst := some 7, op := Go.Op.alloc 63, type := 0, pos := "l1_big.go:158", after := #[], guard := none }) rfl (fun K hK => ?_) ?_
    ·
      rw [if_pos (by rfl)]
      refine wp_alloc63 7 rfl rfl ?_
      intro w9 y9 m7 hb9
      obtain ⟨b7, hB9⟩ : ∃ b, b = W.drew.heap.size := ⟨_, rfl⟩
      rw [← hB9] at m7 y9 ⊢
      have l7 : W.heap.size ≤ b7 := by rw [hB9]; exact bD0.size
      clear hB9 y9
      have z9 := bD0.size
      have c9 := bD0.trans (hb9.mono z9)
      refine hK.out _ _ ⟨(hxa.next c9).c1, (c9.block _ hbd).trans hd1, c9⟩ (fun hHeld9 => ?_)
      clear hK K
      try simp only [Act.put, List.setIfInBounds_toArray, List.set_cons_succ]
      refine wpAnyH_ready (rs := [2, 8]) (by kernel_rfl) (by simp) ?_
      refine AllReadyH.cons (o := { dst := some 27, op := Go.Op.call { callee := Go.Callee.value (Go.Operand.func 54), args := #[Go.Operand.tmp 26], argTypes := #[23] }, type := 63, pos := "l1_big.go:158", after := #[{ on := 1, ground := Go.Ground.data }], guard := none }) rfl (fun K hK => ?_) ?_
      ·
        go_simp
        refine (magOf_any _ n f _ (NA.lim.below c9) (by omega)).mono ?_
        rintro e w2 ⟨us, rfl, hus, hb2⟩
        have y2 := hb2.size
        have m7 := m7.below hb2 m7.lt
        have z2 := c9.size
        have c2 := c9.trans (hb2.mono z2)
        go_wp2_with fail
        refine hK.out _ _ ⟨(hxa.next c2).c1, (c2.block _ hbd).trans hd1, c2⟩ (fun hHeld2 => ?_)
        clear hK K
        try simp only [Act.put, List.setIfInBounds_toArray, List.set_cons_succ]
        refine wpAnyH_ready (rs := [4, 8]) (by kernel_rfl) (by simp) ?_
        refine AllReadyH.cons (o := { dst := some 29, op := Go.Op.call { callee := Go.Callee.value (Go.Operand.func 62), args := #[Go.Operand.tmp 27, Go.Operand.tmp 28], argTypes := #[63, 63] }, type := 73, pos := "l1_big.go:158", after := #[{ on := 2, ground := Go.Ground.data }, { on := 3, ground := Go.Ground.data }, { on := 2, ground := Go.Ground.chain }], guard := none }) rfl (fun K hK => ?_) ?_
        ·
          go_simp
          refine (sizes_any us ds n n' A.natAbs B.natAbs _ _ _ hus hd2 NA.norm NB.norm hp (by omega)).mono ?_
          rintro e w4 ⟨qs, rs, nq, nr, fq, fr, rfl, hq, nQ, hr, nR, hb4⟩
          have y4 := hb4.size
          have m7 := m7.below hb4 m7.lt
          have z4 := c2.size
          have c4 := c2.trans (hb4.mono z4)
          go_wp2_with fail
          refine hK.out _ _ ⟨(hxa.next c4).c1, (c4.block _ hbd).trans hd1, c4⟩ (fun hHeld4 => ?_)
          clear hK K
          try simp only [Act.put, List.setIfInBounds_toArray, List.set_cons_succ]
          refine' wpAnyH_take (i := 5) (oi := { dst := some 24, op := Go.Op.move (Go.Operand.tmp 29), type := 73, pos := "l1_big.go:158", after := #[{ on := 4, ground := Go.Ground.data }], guard := none }) (v := _) rfl (by kernel_rfl) (by kernel_rfl) (by kernel_rfl) (fun _ _ _ h => h) (Or.inl ⟨by rfl, ?y5_9⟩) (by assumption) ?r5_9
          case y5_9 => (intro w hSw; (try dsimp only at hSw); go_simp; (try with_reducible rfl))
          try simp only [Act.put, List.setIfInBounds_toArray, List.set_cons_succ]
          refine' wpAnyH_take (i := 6) (oi := { dst := some 30, op := Go.Op.extract (Go.Operand.tmp 24) 0, type := 63, pos := "l1_big.go:158", after := #[{ on := 5, ground := Go.Ground.data }], guard := none }) (v := _) rfl (by kernel_rfl) (by kernel_rfl) (by kernel_rfl) (fun _ _ _ h => h) (Or.inl ⟨by rfl, ?y6_9⟩) (by assumption) ?r6_9
          case y6_9 => (intro w hSw; (try dsimp only at hSw); go_simp; (try with_reducible rfl))
          try simp only [Act.put, List.setIfInBounds_toArray, List.set_cons_succ]
          refine' wpAnyH_take (i := 7) (oi := { dst := some 31, op := Go.Op.extract (Go.Operand.tmp 24) 1, type := 63, pos := "l1_big.go:158", after := #[{ on := 5, ground := Go.Ground.data }, { on := 10, ground := Go.Ground.gcOnly Go.Departure.lateStores }], guard := none }) (v := _) rfl (by kernel_rfl) (by kernel_rfl) (by kernel_rfl) (fun _ _ _ h => h) (Or.inl ⟨by rfl, ?y7_9⟩) (by assumption) ?r7_9
          case y7_9 => (intro w hSw; (try dsimp only at hSw); go_simp; (try with_reducible rfl))
          try simp only [Act.put, List.setIfInBounds_toArray, List.set_cons_succ]
          refine wpAnyH_ready (rs := [8]) (by kernel_rfl) (by simp) ?_
          refine AllReadyH.cons (o := { dst := some 6, op := Go.Op.alloc 63, type := 0, pos := "l1_big.go:158", after := #[], guard := none }) rfl (fun K hK => ?_) ?_
          ·
            rw [if_pos (by rfl)]
            refine wp_alloc63 6 rfl rfl ?_
            intro w8 y8 m6 hb8
            obtain ⟨b6, hB8⟩ : ∃ b, b = w4.heap.size := ⟨_, rfl⟩
            rw [← hB8] at m6 y8 ⊢
            have l6 : W.heap.size ≤ b6 := by rw [hB8]; exact c4.size
            have n67 : b6 ≠ b7 := by have q := m7.lt; omega
            clear hB8 y8
            have m7 := m7.below hb8 m7.lt
            have z8 := c4.size
            have c8 := c4.trans (hb8.mono z8)
            refine hK.out _ _ ⟨(hxa.next c8).c1, (c8.block _ hbd).trans hd1, c8⟩ (fun hHeld8 => ?_)
            clear hK K
            try simp only [Act.put, List.setIfInBounds_toArray, List.set_cons_succ]
            refine wpAnyH_ready (rs := [10]) (by kernel_rfl) (by simp) ?_
            refine AllReadyH.cons (o := { dst := none, op := Go.Op.store 63 (Go.Operand.tmp 6) (Go.Operand.tmp 30), type := 0, pos := "l1_big.go:158", after := #[{ on := 8, ground := Go.Ground.data }, { on := 6, ground := Go.Ground.data }, { on := 4, ground := Go.Ground.chain }, { on := 0, ground := Go.Ground.phase }, { on := 1, ground := Go.Ground.phase }, { on := 2, ground := Go.Ground.phase }, { on := 3, ground := Go.Ground.phase }, { on := 4, ground := Go.Ground.phase }, { on := 5, ground := Go.Ground.phase }, { on := 6, ground := Go.Ground.phase }, { on := 7, ground := Go.Ground.textOnly Go.Departure.lateStores }, { on := 8, ground := Go.Ground.phase }, { on := 9, ground := Go.Ground.phase }], guard := none }) rfl (fun K hK => ?_) AllReadyH.nil
            rw [if_pos (by rfl)]
            refine wp_store63 (.tmp 6) (.tmp 30) b6 _ _ _ _ qs hq m6 rfl rfl rfl ?_
            intro w10 k10 o10
            have m7' := m7.only o10 (by omega)
            have b10 := c8.trans (o10.below (by omega))
            refine hK.out _ _ ⟨(hxa.next b10).c1, (b10.block _ hbd).trans hd1, b10⟩ (fun hHeld10 => ?_)
            clear hK K
            try simp only [Act.put]
            refine wpAnyH_ready (rs := [11]) (by kernel_rfl) (by simp) ?_
            refine AllReadyH.cons (o := { dst := none, op := Go.Op.store 63 (Go.Operand.tmp 7) (Go.Operand.tmp 31), type := 0, pos := "l1_big.go:158", after := #[{ on := 9, ground := Go.Ground.data }, { on := 7, ground := Go.Ground.data }, { on := 10, ground := Go.Ground.chain }, { on := 0, ground := Go.Ground.phase }, { on := 1, ground := Go.Ground.phase }, { on := 2, ground := Go.Ground.phase }, { on := 3, ground := Go.Ground.phase }, { on := 4, ground := Go.Ground.phase }, { on := 5, ground := Go.Ground.phase }, { on := 6, ground := Go.Ground.phase }, { on := 7, ground := Go.Ground.phase }, { on := 8, ground := Go.Ground.phase }, { on := 9, ground := Go.Ground.phase }, { on := 10, ground := Go.Ground.phase }], guard := none }) rfl (fun K hK => ?_) AllReadyH.nil
            rw [if_pos (by rfl)]
            refine wp_store63 (.tmp 7) (.tmp 31) b7 _ _ _ _ rs hr m7' rfl rfl rfl ?_
            intro w11 k11 o11
            have b11 := b10.trans (o11.below (by omega))
            refine hK.out _ _ ⟨(hxa.next b11).c1, (b11.block _ hbd).trans hd1, b11⟩ (fun hHeld11 => ?_)
            clear hK K
            try simp only [Act.put]
            refine wpAnyH_done (by kernel_rfl) ?_ _
            go_wp2_with fail
            go_meet
            case rel => exact ⟨b6, b7, _, _, _, _, rfl, rfl, l6, l7, n67, k10.only o11 (by omega), nQ, k11, nR, b11⟩
          exact AllReadyH.nil
        refine AllReadyH.cons (o := { dst := some 6, op := Go.Op.alloc 63, type := 0, pos := "l1_big.go:158", after := #[], guard := none }) rfl (fun K hK => ?_) ?_
        ·
          rw [if_pos (by rfl)]
          refine wp_alloc63 6 rfl rfl ?_
          intro w8 y8 m6 hb8
          obtain ⟨b6, hB8⟩ : ∃ b, b = w2.heap.size := ⟨_, rfl⟩
          rw [← hB8] at m6 y8 ⊢
          have l6 : W.heap.size ≤ b6 := by rw [hB8]; exact c2.size
          have n67 : b6 ≠ b7 := by have q := m7.lt; omega
          clear hB8 y8
          have m7 := m7.below hb8 m7.lt
          have z8 := c2.size
          have c8 := c2.trans (hb8.mono z8)
          refine hK.out _ _ ⟨(hxa.next c8).c1, (c8.block _ hbd).trans hd1, c8⟩ (fun hHeld8 => ?_)
          clear hK K
          try simp only [Act.put, List.setIfInBounds_toArray, List.set_cons_succ]
          refine wpAnyH_ready (rs := [4]) (by kernel_rfl) (by simp) ?_
          refine AllReadyH.cons (o := { dst := some 29, op := Go.Op.call { callee := Go.Callee.value (Go.Operand.func 62), args := #[Go.Operand.tmp 27, Go.Operand.tmp 28], argTypes := #[63, 63] }, type := 73, pos := "l1_big.go:158", after := #[{ on := 2, ground := Go.Ground.data }, { on := 3, ground := Go.Ground.data }, { on := 2, ground := Go.Ground.chain }], guard := none }) rfl (fun K hK => ?_) ?_
          ·
            go_simp
            refine (sizes_any us ds n n' A.natAbs B.natAbs _ _ _ hus hd2 NA.norm NB.norm hp (by omega)).mono ?_
            rintro e w4 ⟨qs, rs, nq, nr, fq, fr, rfl, hq, nQ, hr, nR, hb4⟩
            have y4 := hb4.size
            have m6 := m6.below hb4 m6.lt
            have m7 := m7.below hb4 m7.lt
            have z4 := c8.size
            have c4 := c8.trans (hb4.mono z4)
            go_wp2_with fail
            refine hK.out _ _ ⟨(hxa.next c4).c1, (c4.block _ hbd).trans hd1, c4⟩ (fun hHeld4 => ?_)
            clear hK K
            try simp only [Act.put, List.setIfInBounds_toArray, List.set_cons_succ]
            refine' wpAnyH_take (i := 5) (oi := { dst := some 24, op := Go.Op.move (Go.Operand.tmp 29), type := 73, pos := "l1_big.go:158", after := #[{ on := 4, ground := Go.Ground.data }], guard := none }) (v := _) rfl (by kernel_rfl) (by kernel_rfl) (by kernel_rfl) (fun _ _ _ h => h) (Or.inl ⟨by rfl, ?y5_10⟩) (by assumption) ?r5_10
            case y5_10 => (intro w hSw; (try dsimp only at hSw); go_simp; (try with_reducible rfl))
            try simp only [Act.put, List.setIfInBounds_toArray, List.set_cons_succ]
            refine' wpAnyH_take (i := 6) (oi := { dst := some 30, op := Go.Op.extract (Go.Operand.tmp 24) 0, type := 63, pos := "l1_big.go:158", after := #[{ on := 5, ground := Go.Ground.data }], guard := none }) (v := _) rfl (by kernel_rfl) (by kernel_rfl) (by kernel_rfl) (fun _ _ _ h => h) (Or.inl ⟨by rfl, ?y6_10⟩) (by assumption) ?r6_10
            case y6_10 => (intro w hSw; (try dsimp only at hSw); go_simp; (try with_reducible rfl))
            try simp only [Act.put, List.setIfInBounds_toArray, List.set_cons_succ]
            refine' wpAnyH_take (i := 7) (oi := { dst := some 31, op := Go.Op.extract (Go.Operand.tmp 24) 1, type := 63, pos := "l1_big.go:158", after := #[{ on := 5, ground := Go.Ground.data }, { on := 10, ground := Go.Ground.gcOnly Go.Departure.lateStores }], guard := none }) (v := _) rfl (by kernel_rfl) (by kernel_rfl) (by kernel_rfl) (fun _ _ _ h => h) (Or.inl ⟨by rfl, ?y7_10⟩) (by assumption) ?r7_10
            case y7_10 => (intro w hSw; (try dsimp only at hSw); go_simp; (try with_reducible rfl))
            try simp only [Act.put, List.setIfInBounds_toArray, List.set_cons_succ]
            refine wpAnyH_ready (rs := [10]) (by kernel_rfl) (by simp) ?_
            refine AllReadyH.cons (o := { dst := none, op := Go.Op.store 63 (Go.Operand.tmp 6) (Go.Operand.tmp 30), type := 0, pos := "l1_big.go:158", after := #[{ on := 8, ground := Go.Ground.data }, { on := 6, ground := Go.Ground.data }, { on := 4, ground := Go.Ground.chain }, { on := 0, ground := Go.Ground.phase }, { on := 1, ground := Go.Ground.phase }, { on := 2, ground := Go.Ground.phase }, { on := 3, ground := Go.Ground.phase }, { on := 4, ground := Go.Ground.phase }, { on := 5, ground := Go.Ground.phase }, { on := 6, ground := Go.Ground.phase }, { on := 7, ground := Go.Ground.textOnly Go.Departure.lateStores }, { on := 8, ground := Go.Ground.phase }, { on := 9, ground := Go.Ground.phase }], guard := none }) rfl (fun K hK => ?_) AllReadyH.nil
            rw [if_pos (by rfl)]
            refine wp_store63 (.tmp 6) (.tmp 30) b6 _ _ _ _ qs hq m6 rfl rfl rfl ?_
            intro w10 k10 o10
            have m7' := m7.only o10 (by omega)
            have b10 := c4.trans (o10.below (by omega))
            refine hK.out _ _ ⟨(hxa.next b10).c1, (b10.block _ hbd).trans hd1, b10⟩ (fun hHeld10 => ?_)
            clear hK K
            try simp only [Act.put]
            refine wpAnyH_ready (rs := [11]) (by kernel_rfl) (by simp) ?_
            refine AllReadyH.cons (o := { dst := none, op := Go.Op.store 63 (Go.Operand.tmp 7) (Go.Operand.tmp 31), type := 0, pos := "l1_big.go:158", after := #[{ on := 9, ground := Go.Ground.data }, { on := 7, ground := Go.Ground.data }, { on := 10, ground := Go.Ground.chain }, { on := 0, ground := Go.Ground.phase }, { on := 1, ground := Go.Ground.phase }, { on := 2, ground := Go.Ground.phase }, { on := 3, ground := Go.Ground.phase }, { on := 4, ground := Go.Ground.phase }, { on := 5, ground := Go.Ground.phase }, { on := 6, ground := Go.Ground.phase }, { on := 7, ground := Go.Ground.phase }, { on := 8, ground := Go.Ground.phase }, { on := 9, ground := Go.Ground.phase }, { on := 10, ground := Go.Ground.phase }], guard := none }) rfl (fun K hK => ?_) AllReadyH.nil
            rw [if_pos (by rfl)]
            refine wp_store63 (.tmp 7) (.tmp 31) b7 _ _ _ _ rs hr m7' rfl rfl rfl ?_
            intro w11 k11 o11
            have b11 := b10.trans (o11.below (by omega))
            refine hK.out _ _ ⟨(hxa.next b11).c1, (b11.block _ hbd).trans hd1, b11⟩ (fun hHeld11 => ?_)
            clear hK K
            try simp only [Act.put]
            refine wpAnyH_done (by kernel_rfl) ?_ _
            go_wp2_with fail
            go_meet
            case rel => exact ⟨b6, b7, _, _, _, _, rfl, rfl, l6, l7, n67, k10.only o11 (by omega), nQ, k11, nR, b11⟩
          exact AllReadyH.nil
        exact AllReadyH.nil
      refine AllReadyH.cons (o := { dst := some 6, op := Go.Op.alloc 63, type := 0, pos := "l1_big.go:158", after := #[], guard := none }) rfl (fun K hK => ?_) ?_
      ·
        rw [if_pos (by rfl)]
        refine wp_alloc63 6 rfl rfl ?_
        intro w8 y8 m6 hb8
        obtain ⟨b6, hB8⟩ : ∃ b, b = w9.heap.size := ⟨_, rfl⟩
        rw [← hB8] at m6 y8 ⊢
        have l6 : W.heap.size ≤ b6 := by rw [hB8]; exact c9.size
        have n67 : b6 ≠ b7 := by have q := m7.lt; omega
        clear hB8 y8
        have m7 := m7.below hb8 m7.lt
        have z8 := c9.size
        have c8 := c9.trans (hb8.mono z8)
        refine hK.out _ _ ⟨(hxa.next c8).c1, (c8.block _ hbd).trans hd1, c8⟩ (fun hHeld8 => ?_)
        clear hK K
        try simp only [Act.put, List.setIfInBounds_toArray, List.set_cons_succ]
        refine wpAnyH_ready (rs := [2]) (by kernel_rfl) (by simp) ?_
        refine AllReadyH.cons (o := { dst := some 27, op := Go.Op.call { callee := Go.Callee.value (Go.Operand.func 54), args := #[Go.Operand.tmp 26], argTypes := #[23] }, type := 63, pos := "l1_big.go:158", after := #[{ on := 1, ground := Go.Ground.data }], guard := none }) rfl (fun K hK => ?_) ?_
        ·
          go_simp
          refine (magOf_any _ n f _ (NA.lim.below c8) (by omega)).mono ?_
          rintro e w2 ⟨us, rfl, hus, hb2⟩
          have y2 := hb2.size
          have m6 := m6.below hb2 m6.lt
          have m7 := m7.below hb2 m7.lt
          have z2 := c8.size
          have c2 := c8.trans (hb2.mono z2)
          go_wp2_with fail
          refine hK.out _ _ ⟨(hxa.next c2).c1, (c2.block _ hbd).trans hd1, c2⟩ (fun hHeld2 => ?_)
          clear hK K
          try simp only [Act.put, List.setIfInBounds_toArray, List.set_cons_succ]
          refine wpAnyH_ready (rs := [4]) (by kernel_rfl) (by simp) ?_
          refine AllReadyH.cons (o := { dst := some 29, op := Go.Op.call { callee := Go.Callee.value (Go.Operand.func 62), args := #[Go.Operand.tmp 27, Go.Operand.tmp 28], argTypes := #[63, 63] }, type := 73, pos := "l1_big.go:158", after := #[{ on := 2, ground := Go.Ground.data }, { on := 3, ground := Go.Ground.data }, { on := 2, ground := Go.Ground.chain }], guard := none }) rfl (fun K hK => ?_) ?_
          ·
            go_simp
            refine (sizes_any us ds n n' A.natAbs B.natAbs _ _ _ hus hd2 NA.norm NB.norm hp (by omega)).mono ?_
            rintro e w4 ⟨qs, rs, nq, nr, fq, fr, rfl, hq, nQ, hr, nR, hb4⟩
            have y4 := hb4.size
            have m6 := m6.below hb4 m6.lt
            have m7 := m7.below hb4 m7.lt
            have z4 := c2.size
            have c4 := c2.trans (hb4.mono z4)
            go_wp2_with fail
            refine hK.out _ _ ⟨(hxa.next c4).c1, (c4.block _ hbd).trans hd1, c4⟩ (fun hHeld4 => ?_)
            clear hK K
            try simp only [Act.put, List.setIfInBounds_toArray, List.set_cons_succ]
            refine' wpAnyH_take (i := 5) (oi := { dst := some 24, op := Go.Op.move (Go.Operand.tmp 29), type := 73, pos := "l1_big.go:158", after := #[{ on := 4, ground := Go.Ground.data }], guard := none }) (v := _) rfl (by kernel_rfl) (by kernel_rfl) (by kernel_rfl) (fun _ _ _ h => h) (Or.inl ⟨by rfl, ?y5_11⟩) (by assumption) ?r5_11
            case y5_11 => (intro w hSw; (try dsimp only at hSw); go_simp; (try with_reducible rfl))
            try simp only [Act.put, List.setIfInBounds_toArray, List.set_cons_succ]
            refine' wpAnyH_take (i := 6) (oi := { dst := some 30, op := Go.Op.extract (Go.Operand.tmp 24) 0, type := 63, pos := "l1_big.go:158", after := #[{ on := 5, ground := Go.Ground.data }], guard := none }) (v := _) rfl (by kernel_rfl) (by kernel_rfl) (by kernel_rfl) (fun _ _ _ h => h) (Or.inl ⟨by rfl, ?y6_11⟩) (by assumption) ?r6_11
            case y6_11 => (intro w hSw; (try dsimp only at hSw); go_simp; (try with_reducible rfl))
            try simp only [Act.put, List.setIfInBounds_toArray, List.set_cons_succ]
            refine' wpAnyH_take (i := 7) (oi := { dst := some 31, op := Go.Op.extract (Go.Operand.tmp 24) 1, type := 63, pos := "l1_big.go:158", after := #[{ on := 5, ground := Go.Ground.data }, { on := 10, ground := Go.Ground.gcOnly Go.Departure.lateStores }], guard := none }) (v := _) rfl (by kernel_rfl) (by kernel_rfl) (by kernel_rfl) (fun _ _ _ h => h) (Or.inl ⟨by rfl, ?y7_11⟩) (by assumption) ?r7_11
            case y7_11 => (intro w hSw; (try dsimp only at hSw); go_simp; (try with_reducible rfl))
            try simp only [Act.put, List.setIfInBounds_toArray, List.set_cons_succ]
            refine wpAnyH_ready (rs := [10]) (by kernel_rfl) (by simp) ?_
            refine AllReadyH.cons (o := { dst := none, op := Go.Op.store 63 (Go.Operand.tmp 6) (Go.Operand.tmp 30), type := 0, pos := "l1_big.go:158", after := #[{ on := 8, ground := Go.Ground.data }, { on := 6, ground := Go.Ground.data }, { on := 4, ground := Go.Ground.chain }, { on := 0, ground := Go.Ground.phase }, { on := 1, ground := Go.Ground.phase }, { on := 2, ground := Go.Ground.phase }, { on := 3, ground := Go.Ground.phase }, { on := 4, ground := Go.Ground.phase }, { on := 5, ground := Go.Ground.phase }, { on := 6, ground := Go.Ground.phase }, { on := 7, ground := Go.Ground.textOnly Go.Departure.lateStores }, { on := 8, ground := Go.Ground.phase }, { on := 9, ground := Go.Ground.phase }], guard := none }) rfl (fun K hK => ?_) AllReadyH.nil
            rw [if_pos (by rfl)]
            refine wp_store63 (.tmp 6) (.tmp 30) b6 _ _ _ _ qs hq m6 rfl rfl rfl ?_
            intro w10 k10 o10
            have m7' := m7.only o10 (by omega)
            have b10 := c4.trans (o10.below (by omega))
            refine hK.out _ _ ⟨(hxa.next b10).c1, (b10.block _ hbd).trans hd1, b10⟩ (fun hHeld10 => ?_)
            clear hK K
            try simp only [Act.put]
            refine wpAnyH_ready (rs := [11]) (by kernel_rfl) (by simp) ?_
            refine AllReadyH.cons (o := { dst := none, op := Go.Op.store 63 (Go.Operand.tmp 7) (Go.Operand.tmp 31), type := 0, pos := "l1_big.go:158", after := #[{ on := 9, ground := Go.Ground.data }, { on := 7, ground := Go.Ground.data }, { on := 10, ground := Go.Ground.chain }, { on := 0, ground := Go.Ground.phase }, { on := 1, ground := Go.Ground.phase }, { on := 2, ground := Go.Ground.phase }, { on := 3, ground := Go.Ground.phase }, { on := 4, ground := Go.Ground.phase }, { on := 5, ground := Go.Ground.phase }, { on := 6, ground := Go.Ground.phase }, { on := 7, ground := Go.Ground.phase }, { on := 8, ground := Go.Ground.phase }, { on := 9, ground := Go.Ground.phase }, { on := 10, ground := Go.Ground.phase }], guard := none }) rfl (fun K hK => ?_) AllReadyH.nil
            rw [if_pos (by rfl)]
            refine wp_store63 (.tmp 7) (.tmp 31) b7 _ _ _ _ rs hr m7' rfl rfl rfl ?_
            intro w11 k11 o11
            have b11 := b10.trans (o11.below (by omega))
            refine hK.out _ _ ⟨(hxa.next b11).c1, (b11.block _ hbd).trans hd1, b11⟩ (fun hHeld11 => ?_)
            clear hK K
            try simp only [Act.put]
            refine wpAnyH_done (by kernel_rfl) ?_ _
            go_wp2_with fail
            go_meet
            case rel => exact ⟨b6, b7, _, _, _, _, rfl, rfl, l6, l7, n67, k10.only o11 (by omega), nQ, k11, nR, b11⟩
          exact AllReadyH.nil
        exact AllReadyH.nil
      exact AllReadyH.nil
    exact AllReadyH.nil
  case rest =>
    obtain ⟨b6, b7, nq, nr, fq, fr, rfl, rfl, g6, g7, g67, k6, nQ, k7, nR, bc⟩ := hcut
    have xaC := hxa.next bc
    have xbC := hxb.next bc
    have mD : MagAt wc bd n' (ext n' f') := ⟨ds, (bc.block _ hbd).trans hd1, hd2⟩
    have rC := (bc.block _ (by have := hxb.lt; omega)).trans hrs
    have lR : w.heap.size + 1 + 1 < W.heap.size := by omega
    have belC := bel5.trans (bc.mono bel5.size)
    have B0 : 0 < B.natAbs := NB.norm.pos.1 hp
    have hq40 : nq ≤ n := nQ.count (Nat.lt_of_le_of_lt (Nat.div_le_self _ _) (by rw [← NA.norm.val]; exact val_lt NA.norm.lt n))
    have hr40 : nr ≤ n' := nR.count (Nat.lt_trans (Nat.mod_lt _ B0) (by rw [← NB.norm.val]; exact val_lt NB.norm.lt n'))
    have hle := Nat.le_of_lt (Nat.mod_lt A.natAbs B0)
    have c7 := k7.count
    obtain ⟨a0, a1, alt⟩ := id xaC
    obtain ⟨b0, b1, blt⟩ := id xbC
    have NBn := NB.norm
    clear hxa hd1 hd2 NA NB
    go_upto_region 11 with fail
    · have belx := belC
      have eQ : dvQ (m != m') A.natAbs B.natAbs = A.natAbs / B.natAbs := by unfold dvQ; rw [if_neg (by simp [‹m = m'›])]
      have eR : dvR (m != m') A.natAbs B.natAbs = A.natAbs % B.natAbs := by unfold dvR; rw [if_neg (by simp [‹m = m'›])]
      have l6 := k6.lt
      have l7 := k7.lt
      obtain ⟨cs6, p6, q6⟩ := k6
      obtain ⟨cs7, p7, q7⟩ := k7
      have lb := xbC.lt
      have bD := below_drew0 wc
      have yD := bD.size
      have yx := belx.size
      refine wp_region_held_drew (S := (fun w' => w'.cell? ⟨w.heap.size + 1, 0, none⟩ = some (.bool m') ∧ w'.heap[b6]? = some (.cells cs6 63 (0, 0)) ∧ w'.heap[b7]? = some (.cells cs7 63 (0, 0)))) (by kernel_rfl) ⟨xbC.c0, p6, p7⟩ (fun hHeld => ?_)
      refine' wpAnyH_take (i := 0) (oi := { dst := some 47, op := Go.Op.move (Go.Operand.tmp 8), type := 4, pos := "l1_big.go:165", after := #[], guard := none }) (v := _) rfl (by kernel_rfl) (by kernel_rfl) (by kernel_rfl) (fun _ _ _ h => h) (Or.inl ⟨by rfl, ?yy0_1⟩) (by assumption) ?rr0_1
      case yy0_1 => (intro w hSw; (try dsimp only at hSw); obtain ⟨s1, s2, s3⟩ := hSw; clear s2 s3; go_simp; (try with_reducible rfl))
      try simp only [Act.put, List.setIfInBounds_toArray, List.set_cons_succ]
      refine' wpAnyH_take (i := 1) (oi := { dst := some 48, op := Go.Op.load 63 (Go.Operand.tmp 6), type := 63, pos := "l1_big.go:165", after := #[], guard := none }) (v := _) rfl (by kernel_rfl) (by kernel_rfl) (by kernel_rfl) (fun _ _ _ h => h) (yields_load63 (by rfl) (.tmp 6) b6 _ _ cs6 q6 (fun _ h => h.2.1) rfl rfl) (by assumption) ?rr1_1
      try simp only [Act.put, List.setIfInBounds_toArray, List.set_cons_succ]
      refine' wpAnyH_take (i := 3) (oi := { dst := some 50, op := Go.Op.fieldAddr 25 (Go.Operand.tmp 3) 0, type := 0, pos := "l1_big.go:165", after := #[], guard := none }) (v := _) rfl (by kernel_rfl) (by kernel_rfl) (by kernel_rfl) (fun _ _ _ h => h) (Or.inl ⟨by rfl, ?yy3_1⟩) (by assumption) ?rr3_1
      case yy3_1 => (intro w hSw; (try dsimp only at hSw); obtain ⟨s1, s2, s3⟩ := hSw; clear s2 s3; go_simp; (try with_reducible rfl))
      try simp only [Act.put, List.setIfInBounds_toArray, List.set_cons_succ]
      refine' wpAnyH_take (i := 4) (oi := { dst := some 51, op := Go.Op.load 4 (Go.Operand.tmp 50), type := 4, pos := "l1_big.go:165", after := #[{ on := 3, ground := Go.Ground.data }], guard := none }) (v := _) rfl (by kernel_rfl) (by kernel_rfl) (by kernel_rfl) (fun _ _ _ h => h) (Or.inl ⟨by rfl, ?yy4_1⟩) (by assumption) ?rr4_1
      case yy4_1 => (intro w hSw; (try dsimp only at hSw); obtain ⟨s1, s2, s3⟩ := hSw; clear s2 s3; go_simp; (try with_reducible rfl))
      try simp only [Act.put, List.setIfInBounds_toArray, List.set_cons_succ]
      refine' wpAnyH_take (i := 5) (oi := { dst := some 52, op := Go.Op.load 63 (Go.Operand.tmp 7), type := 63, pos := "l1_big.go:165", after := #[], guard := none }) (v := _) rfl (by kernel_rfl) (by kernel_rfl) (by kernel_rfl) (fun _ _ _ h => h) (yields_load63 (by rfl) (.tmp 7) b7 _ _ cs7 q7 (fun _ h => h.2.2) rfl rfl) (by assumption) ?rr5_1
      try simp only [Act.put, List.setIfInBounds_toArray, List.set_cons_succ]
      refine wpAnyH_ready (rs := [2]) (by kernel_rfl) (by simp) ?_
      refine AllReadyH.cons (o := { dst := some 49, op := Go.Op.call { callee := Go.Callee.value (Go.Operand.func 65), args := #[Go.Operand.tmp 47, Go.Operand.tmp 48], argTypes := #[4, 63] }, type := 25, pos := "l1_big.go:165", after := #[{ on := 0, ground := Go.Ground.data }, { on := 1, ground := Go.Ground.data }], guard := none }) rfl (fun K hK => ?_) AllReadyH.nil
      go_simp
      refine (signed_any _ cs6 _ _ _ q6 (by omega) nQ.lt).mono ?_
      rintro e w8 ⟨v6, rfl, own6, hb8⟩
      have b8 := bD.trans hb8
      have y8 := b8.size
      have y8' := hb8.size
      go_wp2_with fail
      refine hK.out _ _ ⟨(xbC.next b8).c0, (b8.block _ l6).trans p6, (b8.block _ l7).trans p7⟩ (fun hHeld8 => ?_)
      clear hK K
      try simp only [Act.put, List.setIfInBounds_toArray, List.set_cons_succ]
      refine wpAnyH_ready (rs := [6]) (by kernel_rfl) (by simp) ?_
      refine AllReadyH.cons (o := { dst := some 53, op := Go.Op.call { callee := Go.Callee.value (Go.Operand.func 65), args := #[Go.Operand.tmp 51, Go.Operand.tmp 52], argTypes := #[4, 63] }, type := 25, pos := "l1_big.go:165", after := #[{ on := 4, ground := Go.Ground.data }, { on := 5, ground := Go.Ground.data }, { on := 2, ground := Go.Ground.chain }], guard := none }) rfl (fun K hK => ?_) AllReadyH.nil
      go_simp
      refine (signed_any _ cs7 _ _ _ q7 (by omega) nR.lt).mono ?_
      rintro e w9 ⟨v7, rfl, own7, hb9⟩
      have b9 := b8.trans (hb9.mono b8.size)
      have own6' := own6.below hb9
      have in6 := own6.inn
      have in7 := own7.inn
      obtain ⟨a6, c6, rfl, -⟩ := id own6
      obtain ⟨a7, c7', rfl, -⟩ := id own7
      have r9 := (b9.block _ (by omega)).trans rC
      go_wp2_with fail
      refine hK.out _ _ ⟨(xbC.next b9).c0, (b9.block _ l6).trans p6, (b9.block _ l7).trans p7⟩ (fun hHeld9 => ?_)
      clear hK K
      try simp only [Act.put, List.setIfInBounds_toArray, List.set_cons_succ]
      refine' wpAnyH_take (i := 7) (oi := { dst := some 54, op := Go.Op.build 37 #[(0, Go.Operand.const (Go.Value.int Go.IntKind.i64 0)), (1, Go.Operand.tmp 49), (2, Go.Operand.tmp 53)], type := 37, pos := "l1_big.go:165", after := #[{ on := 2, ground := Go.Ground.data }, { on := 6, ground := Go.Ground.data }], guard := none }) (v := _) rfl (by kernel_rfl) (by kernel_rfl) (by kernel_rfl) (fun _ _ _ h => h) (Or.inl ⟨by rfl, ?yy7_1⟩) (by assumption) ?rr7_1
      case yy7_1 => (intro w hSw; (try dsimp only at hSw); obtain ⟨s1, s2, s3⟩ := hSw; clear s2 s3; go_simp; (try with_reducible rfl))
      try simp only [Act.put, List.setIfInBounds_toArray, List.set_cons_succ]
      refine wpAnyH_ready (rs := [8]) (by kernel_rfl) (by simp) ?_
      refine AllReadyH.cons (o := { dst := none, op := Go.Op.store 37 (Go.Operand.tmp 4) (Go.Operand.tmp 54), type := 0, pos := "l1_big.go:165", after := #[{ on := 7, ground := Go.Ground.data }, { on := 6, ground := Go.Ground.chain }, { on := 0, ground := Go.Ground.phase }, { on := 1, ground := Go.Ground.phase }, { on := 2, ground := Go.Ground.phase }, { on := 3, ground := Go.Ground.phase }, { on := 4, ground := Go.Ground.phase }, { on := 5, ground := Go.Ground.phase }, { on := 6, ground := Go.Ground.phase }, { on := 7, ground := Go.Ground.phase }], guard := none }) rfl (fun K hK => ?_) AllReadyH.nil
      rw [if_pos (by rfl)]
      refine wp_store_row 37 (.tmp 4) (.tmp 54) rfl (w.heap.size + 1 + 1) _ rfl rfl 37 _ r9 Try.size37 rfl (by simp [Value.oneCell']) ?_
      have o10 := fun cs => Only.setRow (w.heap.size + 1 + 1) w9 cs
      refine hK.out _ _ ⟨((o10 _).cell _ _ (by omega)).trans (xbC.next b9).c0, ((o10 _).block _ (by omega)).trans ((b9.block _ l6).trans p6), ((o10 _).block _ (by omega)).trans ((b9.block _ l7).trans p7)⟩ (fun hHeld10 => ?_)
      clear hK K
      try simp only [Act.put]
      refine wpAnyH_done (by kernel_rfl) ?_ _
      go_wp2_with fail
      refine bodyPost_ret (results_cell_row rfl _ _ (w.heap.size + 1 + 1) 37 _ (0, 0) _ rfl (setRow_heap w9 _ _ _ _ _ r9) Try.underlying37 rfl Try.size37) rfl ⟨.slice a6 (nq) c6, .slice a7 (nr) c7', nq, nr, fq, fr, w8.heap.size, ?eqn, ?_, ?_, ?_, ?_, by rw [eQ]; exact nQ, by rw [eR]; exact nR, ?_⟩
      case eqn => first | rfl | (simp [‹m = m'›])
      · exact (own6'.keepIn in6 (fun b h1 _ => (o10 _).block b (by omega))).less (by omega)
      · exact fun b hn hb => ⟨by have q := in6 b hn hb; omega, (in6 b hn hb).2⟩
      · exact own7.keepIn in7 (fun b h1 _ => (o10 _).block b (by omega))
      · omega
      · exact (belx.trans (b9.mono yx)).trans ((o10 _).below (by omega))
    · have hh := ‹(!m == m') = true ∧ 0 < nr›
      have eQ : dvQ (m != m') A.natAbs B.natAbs = A.natAbs / B.natAbs * 1 + 1 := by unfold dvQ; rw [if_pos ⟨hh.1, nR.pos.1 hh.2⟩, Nat.mul_one]
      have eR : dvR (m != m') A.natAbs B.natAbs = B.natAbs - A.natAbs % B.natAbs := by unfold dvR; rw [if_pos ⟨hh.1, nR.pos.1 hh.2⟩]
      refine (scale_any b6 nq 1 1 fq _ k6 (by omega) (by omega) (by omega) nQ.lt).mono ?_
      rintro e w5 ⟨rfl, k6s, o6⟩
      have nQs := nQ.scale (d := 1) (m := 1) (by omega) (by omega)
      have k7s := k7.only o6 (Ne.symm g67)
      have mDs := mD.only o6 (by omega)
      have bc5 := bc.trans (o6.below g6)
      have hts := trimN_le (scF fq 1 1 nq) (nq + 1)
      go_upto_region 11 with (first
        | ((with_reducible refine wpList_load63 (.tmp 5) bd n' _ mDs ?_ ?_ ?_ ?_); rfl; rfl; rfl; intro cs5 hc5)
        | ((with_reducible refine wpList_load63 (.tmp 7) b7 nr _ k7s ?_ ?_ ?_ ?_); rfl; rfl; rfl; intro cs4 hc4))
      refine (diff_any cs5 cs4 n' nr (ext n' f') fr _ hc5 hc4 (by omega) NBn.lt nR.lt).mono ?_
      rintro e w6 ⟨rs, rfl, hrs2, hb6⟩
      have nRs := diffNorm NBn nR hle
      have k7t := k7s.below hb6 k7s.lt
      have k6t := k6s.below hb6 k6s.lt
      have bc6 := bc5.trans (hb6.mono bc5.size)
      have htr := trimN_le (subD (ext n' f') fr) n'
      go_upto_region 11 with ((with_reducible refine wpList_store63 (.tmp 7) (.tmp 46) b7 _ nr _ fr rs hrs2 k7t ?_ ?_ ?_ ?_ ?_); rfl; rfl; rfl; rfl; intro w7 k7u o7)
      have k6u := k6t.only o7 g67
      have bc7 := bc6.trans (o7.below g7)
      replace xbC := hxb.next bc7
      replace rC := (bc7.block _ (by omega)).trans hrs
      have belx := bel5.trans (bc7.mono bel5.size)
      clear k6 k7 k6s k7s k6t k7t
      have k6 := k6u
      have k7 := k7u
      clear k6u k7u
      have l6 := k6.lt
      have l7 := k7.lt
      obtain ⟨cs6, p6, q6⟩ := k6
      obtain ⟨cs7, p7, q7⟩ := k7
      have lb := xbC.lt
      have bD := below_drew0 w7
      have yD := bD.size
      have yx := belx.size
      refine wp_region_held_drew (S := (fun w' => w'.cell? ⟨w.heap.size + 1, 0, none⟩ = some (.bool m') ∧ w'.heap[b6]? = some (.cells cs6 63 (0, 0)) ∧ w'.heap[b7]? = some (.cells cs7 63 (0, 0)))) (by kernel_rfl) ⟨xbC.c0, p6, p7⟩ (fun hHeld => ?_)
      refine' wpAnyH_take (i := 0) (oi := { dst := some 47, op := Go.Op.move (Go.Operand.tmp 8), type := 4, pos := "l1_big.go:165", after := #[], guard := none }) (v := _) rfl (by kernel_rfl) (by kernel_rfl) (by kernel_rfl) (fun _ _ _ h => h) (Or.inl ⟨by rfl, ?yy0_2⟩) (by assumption) ?rr0_2
      case yy0_2 => (intro w hSw; (try dsimp only at hSw); obtain ⟨s1, s2, s3⟩ := hSw; clear s2 s3; go_simp; (try with_reducible rfl))
      try simp only [Act.put, List.setIfInBounds_toArray, List.set_cons_succ]
      refine' wpAnyH_take (i := 1) (oi := { dst := some 48, op := Go.Op.load 63 (Go.Operand.tmp 6), type := 63, pos := "l1_big.go:165", after := #[], guard := none }) (v := _) rfl (by kernel_rfl) (by kernel_rfl) (by kernel_rfl) (fun _ _ _ h => h) (yields_load63 (by rfl) (.tmp 6) b6 _ _ cs6 q6 (fun _ h => h.2.1) rfl rfl) (by assumption) ?rr1_2
      try simp only [Act.put, List.setIfInBounds_toArray, List.set_cons_succ]
      refine' wpAnyH_take (i := 3) (oi := { dst := some 50, op := Go.Op.fieldAddr 25 (Go.Operand.tmp 3) 0, type := 0, pos := "l1_big.go:165", after := #[], guard := none }) (v := _) rfl (by kernel_rfl) (by kernel_rfl) (by kernel_rfl) (fun _ _ _ h => h) (Or.inl ⟨by rfl, ?yy3_2⟩) (by assumption) ?rr3_2
      case yy3_2 => (intro w hSw; (try dsimp only at hSw); obtain ⟨s1, s2, s3⟩ := hSw; clear s2 s3; go_simp; (try with_reducible rfl))
      try simp only [Act.put, List.setIfInBounds_toArray, List.set_cons_succ]
      refine' wpAnyH_take (i := 4) (oi := { dst := some 51, op := Go.Op.load 4 (Go.Operand.tmp 50), type := 4, pos := "l1_big.go:165", after := #[{ on := 3, ground := Go.Ground.data }], guard := none }) (v := _) rfl (by kernel_rfl) (by kernel_rfl) (by kernel_rfl) (fun _ _ _ h => h) (Or.inl ⟨by rfl, ?yy4_2⟩) (by assumption) ?rr4_2
      case yy4_2 => (intro w hSw; (try dsimp only at hSw); obtain ⟨s1, s2, s3⟩ := hSw; clear s2 s3; go_simp; (try with_reducible rfl))
      try simp only [Act.put, List.setIfInBounds_toArray, List.set_cons_succ]
      refine' wpAnyH_take (i := 5) (oi := { dst := some 52, op := Go.Op.load 63 (Go.Operand.tmp 7), type := 63, pos := "l1_big.go:165", after := #[], guard := none }) (v := _) rfl (by kernel_rfl) (by kernel_rfl) (by kernel_rfl) (fun _ _ _ h => h) (yields_load63 (by rfl) (.tmp 7) b7 _ _ cs7 q7 (fun _ h => h.2.2) rfl rfl) (by assumption) ?rr5_2
      try simp only [Act.put, List.setIfInBounds_toArray, List.set_cons_succ]
      refine wpAnyH_ready (rs := [2]) (by kernel_rfl) (by simp) ?_
      refine AllReadyH.cons (o := { dst := some 49, op := Go.Op.call { callee := Go.Callee.value (Go.Operand.func 65), args := #[Go.Operand.tmp 47, Go.Operand.tmp 48], argTypes := #[4, 63] }, type := 25, pos := "l1_big.go:165", after := #[{ on := 0, ground := Go.Ground.data }, { on := 1, ground := Go.Ground.data }], guard := none }) rfl (fun K hK => ?_) AllReadyH.nil
      go_simp
      refine (signed_any _ cs6 _ _ _ q6 (by omega) nQs.lt).mono ?_
      rintro e w8 ⟨v6, rfl, own6, hb8⟩
      have b8 := bD.trans hb8
      have y8 := b8.size
      have y8' := hb8.size
      go_wp2_with fail
      refine hK.out _ _ ⟨(xbC.next b8).c0, (b8.block _ l6).trans p6, (b8.block _ l7).trans p7⟩ (fun hHeld8 => ?_)
      clear hK K
      try simp only [Act.put, List.setIfInBounds_toArray, List.set_cons_succ]
      refine wpAnyH_ready (rs := [6]) (by kernel_rfl) (by simp) ?_
      refine AllReadyH.cons (o := { dst := some 53, op := Go.Op.call { callee := Go.Callee.value (Go.Operand.func 65), args := #[Go.Operand.tmp 51, Go.Operand.tmp 52], argTypes := #[4, 63] }, type := 25, pos := "l1_big.go:165", after := #[{ on := 4, ground := Go.Ground.data }, { on := 5, ground := Go.Ground.data }, { on := 2, ground := Go.Ground.chain }], guard := none }) rfl (fun K hK => ?_) AllReadyH.nil
      go_simp
      refine (signed_any _ cs7 _ _ _ q7 (by omega) nRs.lt).mono ?_
      rintro e w9 ⟨v7, rfl, own7, hb9⟩
      have b9 := b8.trans (hb9.mono b8.size)
      have own6' := own6.below hb9
      have in6 := own6.inn
      have in7 := own7.inn
      obtain ⟨a6, c6, rfl, -⟩ := id own6
      obtain ⟨a7, c7', rfl, -⟩ := id own7
      have r9 := (b9.block _ (by omega)).trans rC
      go_wp2_with fail
      refine hK.out _ _ ⟨(xbC.next b9).c0, (b9.block _ l6).trans p6, (b9.block _ l7).trans p7⟩ (fun hHeld9 => ?_)
      clear hK K
      try simp only [Act.put, List.setIfInBounds_toArray, List.set_cons_succ]
      refine' wpAnyH_take (i := 7) (oi := { dst := some 54, op := Go.Op.build 37 #[(0, Go.Operand.const (Go.Value.int Go.IntKind.i64 0)), (1, Go.Operand.tmp 49), (2, Go.Operand.tmp 53)], type := 37, pos := "l1_big.go:165", after := #[{ on := 2, ground := Go.Ground.data }, { on := 6, ground := Go.Ground.data }], guard := none }) (v := _) rfl (by kernel_rfl) (by kernel_rfl) (by kernel_rfl) (fun _ _ _ h => h) (Or.inl ⟨by rfl, ?yy7_2⟩) (by assumption) ?rr7_2
      case yy7_2 => (intro w hSw; (try dsimp only at hSw); obtain ⟨s1, s2, s3⟩ := hSw; clear s2 s3; go_simp; (try with_reducible rfl))
      try simp only [Act.put, List.setIfInBounds_toArray, List.set_cons_succ]
      refine wpAnyH_ready (rs := [8]) (by kernel_rfl) (by simp) ?_
      refine AllReadyH.cons (o := { dst := none, op := Go.Op.store 37 (Go.Operand.tmp 4) (Go.Operand.tmp 54), type := 0, pos := "l1_big.go:165", after := #[{ on := 7, ground := Go.Ground.data }, { on := 6, ground := Go.Ground.chain }, { on := 0, ground := Go.Ground.phase }, { on := 1, ground := Go.Ground.phase }, { on := 2, ground := Go.Ground.phase }, { on := 3, ground := Go.Ground.phase }, { on := 4, ground := Go.Ground.phase }, { on := 5, ground := Go.Ground.phase }, { on := 6, ground := Go.Ground.phase }, { on := 7, ground := Go.Ground.phase }], guard := none }) rfl (fun K hK => ?_) AllReadyH.nil
      rw [if_pos (by rfl)]
      refine wp_store_row 37 (.tmp 4) (.tmp 54) rfl (w.heap.size + 1 + 1) _ rfl rfl 37 _ r9 Try.size37 rfl (by simp [Value.oneCell']) ?_
      have o10 := fun cs => Only.setRow (w.heap.size + 1 + 1) w9 cs
      refine hK.out _ _ ⟨((o10 _).cell _ _ (by omega)).trans (xbC.next b9).c0, ((o10 _).block _ (by omega)).trans ((b9.block _ l6).trans p6), ((o10 _).block _ (by omega)).trans ((b9.block _ l7).trans p7)⟩ (fun hHeld10 => ?_)
      clear hK K
      try simp only [Act.put]
      refine wpAnyH_done (by kernel_rfl) ?_ _
      go_wp2_with fail
      refine bodyPost_ret (results_cell_row rfl _ _ (w.heap.size + 1 + 1) 37 _ (0, 0) _ rfl (setRow_heap w9 _ _ _ _ _ r9) Try.underlying37 rfl Try.size37) rfl ⟨.slice a6 (trimN (scF fq 1 1 nq) (nq + 1)) c6, .slice a7 (trimN (subD (ext n' f') fr) n') c7', trimN (scF fq 1 1 nq) (nq + 1), trimN (subD (ext n' f') fr) n', scF fq 1 1 nq, ext n' (subD (ext n' f') fr), w8.heap.size, ?eqn, ?_, ?_, ?_, ?_, by rw [eQ]; exact nQs, by rw [eR]; exact nRs, ?_⟩
      case eqn => first | rfl | (simp [hh.1, bne])
      · exact (own6'.keepIn in6 (fun b h1 _ => (o10 _).block b (by omega))).less (by omega)
      · exact fun b hn hb => ⟨by have q := in6 b hn hb; omega, (in6 b hn hb).2⟩
      · exact own7.keepIn in7 (fun b h1 _ => (o10 _).block b (by omega))
      · omega
      · exact (belx.trans (b9.mono yx)).trans ((o10 _).below (by omega))
    · have belx := belC
      have eQ : dvQ (m != m') A.natAbs B.natAbs = A.natAbs / B.natAbs := by unfold dvQ; rw [if_neg (fun hh => (‹(!m == m') = false ∨ ¬0 < nr›).elim (fun q => Bool.noConfusion (q.symm.trans hh.1)) (fun q => q (nR.pos.2 hh.2)))]
      have eR : dvR (m != m') A.natAbs B.natAbs = A.natAbs % B.natAbs := by unfold dvR; rw [if_neg (fun hh => (‹(!m == m') = false ∨ ¬0 < nr›).elim (fun q => Bool.noConfusion (q.symm.trans hh.1)) (fun q => q (nR.pos.2 hh.2)))]
      have l6 := k6.lt
      have l7 := k7.lt
      obtain ⟨cs6, p6, q6⟩ := k6
      obtain ⟨cs7, p7, q7⟩ := k7
      have lb := xbC.lt
      have bD := below_drew0 wc
      have yD := bD.size
      have yx := belx.size
      refine wp_region_held_drew (S := (fun w' => w'.cell? ⟨w.heap.size + 1, 0, none⟩ = some (.bool m') ∧ w'.heap[b6]? = some (.cells cs6 63 (0, 0)) ∧ w'.heap[b7]? = some (.cells cs7 63 (0, 0)))) (by kernel_rfl) ⟨xbC.c0, p6, p7⟩ (fun hHeld => ?_)
      refine' wpAnyH_take (i := 0) (oi := { dst := some 47, op := Go.Op.move (Go.Operand.tmp 8), type := 4, pos := "l1_big.go:165", after := #[], guard := none }) (v := _) rfl (by kernel_rfl) (by kernel_rfl) (by kernel_rfl) (fun _ _ _ h => h) (Or.inl ⟨by rfl, ?yy0_3⟩) (by assumption) ?rr0_3
      case yy0_3 => (intro w hSw; (try dsimp only at hSw); obtain ⟨s1, s2, s3⟩ := hSw; clear s2 s3; go_simp; (try with_reducible rfl))
      try simp only [Act.put, List.setIfInBounds_toArray, List.set_cons_succ]
      refine' wpAnyH_take (i := 1) (oi := { dst := some 48, op := Go.Op.load 63 (Go.Operand.tmp 6), type := 63, pos := "l1_big.go:165", after := #[], guard := none }) (v := _) rfl (by kernel_rfl) (by kernel_rfl) (by kernel_rfl) (fun _ _ _ h => h) (yields_load63 (by rfl) (.tmp 6) b6 _ _ cs6 q6 (fun _ h => h.2.1) rfl rfl) (by assumption) ?rr1_3
      try simp only [Act.put, List.setIfInBounds_toArray, List.set_cons_succ]
      refine' wpAnyH_take (i := 3) (oi := { dst := some 50, op := Go.Op.fieldAddr 25 (Go.Operand.tmp 3) 0, type := 0, pos := "l1_big.go:165", after := #[], guard := none }) (v := _) rfl (by kernel_rfl) (by kernel_rfl) (by kernel_rfl) (fun _ _ _ h => h) (Or.inl ⟨by rfl, ?yy3_3⟩) (by assumption) ?rr3_3
      case yy3_3 => (intro w hSw; (try dsimp only at hSw); obtain ⟨s1, s2, s3⟩ := hSw; clear s2 s3; go_simp; (try with_reducible rfl))
      try simp only [Act.put, List.setIfInBounds_toArray, List.set_cons_succ]
      refine' wpAnyH_take (i := 4) (oi := { dst := some 51, op := Go.Op.load 4 (Go.Operand.tmp 50), type := 4, pos := "l1_big.go:165", after := #[{ on := 3, ground := Go.Ground.data }], guard := none }) (v := _) rfl (by kernel_rfl) (by kernel_rfl) (by kernel_rfl) (fun _ _ _ h => h) (Or.inl ⟨by rfl, ?yy4_3⟩) (by assumption) ?rr4_3
      case yy4_3 => (intro w hSw; (try dsimp only at hSw); obtain ⟨s1, s2, s3⟩ := hSw; clear s2 s3; go_simp; (try with_reducible rfl))
      try simp only [Act.put, List.setIfInBounds_toArray, List.set_cons_succ]
      refine' wpAnyH_take (i := 5) (oi := { dst := some 52, op := Go.Op.load 63 (Go.Operand.tmp 7), type := 63, pos := "l1_big.go:165", after := #[], guard := none }) (v := _) rfl (by kernel_rfl) (by kernel_rfl) (by kernel_rfl) (fun _ _ _ h => h) (yields_load63 (by rfl) (.tmp 7) b7 _ _ cs7 q7 (fun _ h => h.2.2) rfl rfl) (by assumption) ?rr5_3
      try simp only [Act.put, List.setIfInBounds_toArray, List.set_cons_succ]
      refine wpAnyH_ready (rs := [2]) (by kernel_rfl) (by simp) ?_
      refine AllReadyH.cons (o := { dst := some 49, op := Go.Op.call { callee := Go.Callee.value (Go.Operand.func 65), args := #[Go.Operand.tmp 47, Go.Operand.tmp 48], argTypes := #[4, 63] }, type := 25, pos := "l1_big.go:165", after := #[{ on := 0, ground := Go.Ground.data }, { on := 1, ground := Go.Ground.data }], guard := none }) rfl (fun K hK => ?_) AllReadyH.nil
      go_simp
      refine (signed_any _ cs6 _ _ _ q6 (by omega) nQ.lt).mono ?_
      rintro e w8 ⟨v6, rfl, own6, hb8⟩
      have b8 := bD.trans hb8
      have y8 := b8.size
      have y8' := hb8.size
      go_wp2_with fail
      refine hK.out _ _ ⟨(xbC.next b8).c0, (b8.block _ l6).trans p6, (b8.block _ l7).trans p7⟩ (fun hHeld8 => ?_)
      clear hK K
      try simp only [Act.put, List.setIfInBounds_toArray, List.set_cons_succ]
      refine wpAnyH_ready (rs := [6]) (by kernel_rfl) (by simp) ?_
      refine AllReadyH.cons (o := { dst := some 53, op := Go.Op.call { callee := Go.Callee.value (Go.Operand.func 65), args := #[Go.Operand.tmp 51, Go.Operand.tmp 52], argTypes := #[4, 63] }, type := 25, pos := "l1_big.go:165", after := #[{ on := 4, ground := Go.Ground.data }, { on := 5, ground := Go.Ground.data }, { on := 2, ground := Go.Ground.chain }], guard := none }) rfl (fun K hK => ?_) AllReadyH.nil
      go_simp
      refine (signed_any _ cs7 _ _ _ q7 (by omega) nR.lt).mono ?_
      rintro e w9 ⟨v7, rfl, own7, hb9⟩
      have b9 := b8.trans (hb9.mono b8.size)
      have own6' := own6.below hb9
      have in6 := own6.inn
      have in7 := own7.inn
      obtain ⟨a6, c6, rfl, -⟩ := id own6
      obtain ⟨a7, c7', rfl, -⟩ := id own7
      have r9 := (b9.block _ (by omega)).trans rC
      go_wp2_with fail
      refine hK.out _ _ ⟨(xbC.next b9).c0, (b9.block _ l6).trans p6, (b9.block _ l7).trans p7⟩ (fun hHeld9 => ?_)
      clear hK K
      try simp only [Act.put, List.setIfInBounds_toArray, List.set_cons_succ]
      refine' wpAnyH_take (i := 7) (oi := { dst := some 54, op := Go.Op.build 37 #[(0, Go.Operand.const (Go.Value.int Go.IntKind.i64 0)), (1, Go.Operand.tmp 49), (2, Go.Operand.tmp 53)], type := 37, pos := "l1_big.go:165", after := #[{ on := 2, ground := Go.Ground.data }, { on := 6, ground := Go.Ground.data }], guard := none }) (v := _) rfl (by kernel_rfl) (by kernel_rfl) (by kernel_rfl) (fun _ _ _ h => h) (Or.inl ⟨by rfl, ?yy7_3⟩) (by assumption) ?rr7_3
      case yy7_3 => (intro w hSw; (try dsimp only at hSw); obtain ⟨s1, s2, s3⟩ := hSw; clear s2 s3; go_simp; (try with_reducible rfl))
      try simp only [Act.put, List.setIfInBounds_toArray, List.set_cons_succ]
      refine wpAnyH_ready (rs := [8]) (by kernel_rfl) (by simp) ?_
      refine AllReadyH.cons (o := { dst := none, op := Go.Op.store 37 (Go.Operand.tmp 4) (Go.Operand.tmp 54), type := 0, pos := "l1_big.go:165", after := #[{ on := 7, ground := Go.Ground.data }, { on := 6, ground := Go.Ground.chain }, { on := 0, ground := Go.Ground.phase }, { on := 1, ground := Go.Ground.phase }, { on := 2, ground := Go.Ground.phase }, { on := 3, ground := Go.Ground.phase }, { on := 4, ground := Go.Ground.phase }, { on := 5, ground := Go.Ground.phase }, { on := 6, ground := Go.Ground.phase }, { on := 7, ground := Go.Ground.phase }], guard := none }) rfl (fun K hK => ?_) AllReadyH.nil
      rw [if_pos (by rfl)]
      refine wp_store_row 37 (.tmp 4) (.tmp 54) rfl (w.heap.size + 1 + 1) _ rfl rfl 37 _ r9 Try.size37 rfl (by simp [Value.oneCell']) ?_
      have o10 := fun cs => Only.setRow (w.heap.size + 1 + 1) w9 cs
      refine hK.out _ _ ⟨((o10 _).cell _ _ (by omega)).trans (xbC.next b9).c0, ((o10 _).block _ (by omega)).trans ((b9.block _ l6).trans p6), ((o10 _).block _ (by omega)).trans ((b9.block _ l7).trans p7)⟩ (fun hHeld10 => ?_)
      clear hK K
      try simp only [Act.put]
      refine wpAnyH_done (by kernel_rfl) ?_ _
      go_wp2_with fail
      refine bodyPost_ret (results_cell_row rfl _ _ (w.heap.size + 1 + 1) 37 _ (0, 0) _ rfl (setRow_heap w9 _ _ _ _ _ r9) Try.underlying37 rfl Try.size37) rfl ⟨.slice a6 (nq) c6, .slice a7 (nr) c7', nq, nr, fq, fr, w8.heap.size, ?eqn, ?_, ?_, ?_, ?_, by rw [eQ]; exact nQ, by rw [eR]; exact nR, ?_⟩
      case eqn => first | rfl | (simp [bne]) | (simp_all [bne])
      · exact (own6'.keepIn in6 (fun b h1 _ => (o10 _).block b (by omega))).less (by omega)
      · exact fun b hn hb => ⟨by have q := in6 b hn hb; omega, (in6 b hn hb).2⟩
      · exact own7.keepIn in7 (fun b h1 _ => (o10 _).block b (by omega))
      · omega
      · exact (belx.trans (b9.mono yx)).trans ((o10 _).below (by omega))

end Go.Proofs.Ytpcnmolncoaddaa

namespace Go.Proofs.Ytpcnmolncoaddaa
open Go.RowKit Go.Joins

structure Res5 (wx : World) (b : Nat) (x0 x1 x2 x3 x4 : Value) : Prop where
  c0 : wx.cell? ⟨b, 0, none⟩ = some x0
  c1 : wx.cell? ⟨b, 1, none⟩ = some x1
  c2 : wx.cell? ⟨b, 2, none⟩ = some x2
  c3 : wx.cell? ⟨b, 3, none⟩ = some x3
  c4 : wx.cell? ⟨b, 4, none⟩ = some x4
  f0 : wx.frozen? ⟨b, 0, none⟩ = false
  f1 : wx.frozen? ⟨b, 1, none⟩ = false
  f2 : wx.frozen? ⟨b, 2, none⟩ = false
  f3 : wx.frozen? ⟨b, 3, none⟩ = false
  f4 : wx.frozen? ⟨b, 4, none⟩ = false

theorem Res5.of {wx : World} {b : Nat} {x0 x1 x2 x3 x4 : Value} (h : wx.heap[b]? = some (.cells #[x0, x1, x2, x3, x4] 37 (0, 0))) : Res5 wx b x0 x1 x2 x3 x4 :=
  ⟨by rw [cell_of_block h]; rfl, by rw [cell_of_block h]; rfl, by rw [cell_of_block h]; rfl, by rw [cell_of_block h]; rfl, by rw [cell_of_block h]; rfl,
   unfrozen_of_block h _, unfrozen_of_block h _, unfrozen_of_block h _, unfrozen_of_block h _, unfrozen_of_block h _⟩

theorem res_block (m m' : Bool) (v v' : Value) (w : World) :
    (((w.alloc (.cells #[.bool m, v] 25)).alloc (.cells #[.bool m', v'] 25)).alloc (.cells #[.int .i64 0, .bool false, .slice none 0 0, .bool false, .slice none 0 0] 37)).heap[w.heap.size + 1 + 1]? = some (.cells #[.int .i64 0, .bool false, .slice none 0 0, .bool false, .slice none 0 0] 37 (0, 0)) := by
  rw [show w.heap.size + 1 + 1 = ((w.alloc (.cells #[.bool m, v] 25)).alloc (.cells #[.bool m', v'] 25)).heap.size from by simp]; exact heap_alloc_new _ _

set_option maxHeartbeats 1000000 in
set_option maxRecDepth 100000 in
theorem iDiv_f1 (m m' : Bool) (v v' : Value) (n n' : Nat) (f f' : Nat → Nat) (w : World) (hL : Lim w v n f) (hL' : Lim w v' n' f') (hf : faultB m n f = true) :
    Calls Try.prog 25 #[.agg #[.bool m, v], .agg #[.bool m', v']] w fun e w' => e = .returned (.agg #[.int .i64 1, .bool false, .slice none 0 0, .bool false, .slice none 0 0]) ∧ Below w.heap.size w w' := by
  obtain ⟨a, c, rfl, -⟩ := id hL
  obtain ⟨a', c', rfl, -⟩ := id hL'
  go_enter Try.func25, Try.ntmps25
  go_wp2_with fail
  refine (iFault_any m _ n f _ (hL.below (below_alloc3 _ _ _ _))).mono ?_
  rintro e w1 ⟨rfl, hb1⟩
  rw [hf]
  have r1 := (hb1.block _ (by simp)).trans (res_block m m' _ _ w)
  have bel : Below w.heap.size w w1 := (below_alloc3 _ _ _ _).trans (hb1.mono (by simp only [World.size_alloc]; omega))
  obtain ⟨c0, c1, c2, c3, c4, f0, f1, f2, f3, f4⟩ := Res5.of r1
  clear hb1 hf r1
  go_wp2_with fail
  refine bodyPost_ret (v := .agg #[.int .i64 1, .bool false, .slice none 0 0, .bool false, .slice none 0 0]) (by simp [results, Try.results25, go_sem, c0, c1, c2, c3, c4]) rfl ⟨rfl, ?_⟩
  exact ((((bel.setCell (by show _ ≤ w.heap.size + 1 + 1; omega) _).setCell (by show _ ≤ w.heap.size + 1 + 1; omega) _).setCell (by show _ ≤ w.heap.size + 1 + 1; omega) _).setCell (by show _ ≤ w.heap.size + 1 + 1; omega) _).setCell (by show _ ≤ w.heap.size + 1 + 1; omega) _

set_option maxHeartbeats 1000000 in
set_option maxRecDepth 100000 in
theorem iDiv_f2 (m m' : Bool) (v v' : Value) (n n' : Nat) (f f' : Nat → Nat) (w : World) (hL : Lim w v n f) (hL' : Lim w v' n' f') (hf : faultB m n f = false) (hf' : faultB m' n' f' = true) :
    Calls Try.prog 25 #[.agg #[.bool m, v], .agg #[.bool m', v']] w fun e w' => e = .returned (.agg #[.int .i64 1, .bool false, .slice none 0 0, .bool false, .slice none 0 0]) ∧ Below w.heap.size w w' := by
  obtain ⟨a, c, rfl, -⟩ := id hL
  obtain ⟨a', c', rfl, -⟩ := id hL'
  go_enter Try.func25, Try.ntmps25
  go_wp2_with fail
  refine (iFault_any m _ n f _ (hL.below (below_alloc3 _ _ _ _))).mono ?_
  rintro e w1 ⟨rfl, hb1⟩
  rw [hf]
  have r1 := (hb1.block _ (by simp)).trans (res_block m m' _ _ w)
  have bel1 : Below w.heap.size w w1 := (below_alloc3 _ _ _ _).trans (hb1.mono (by simp only [World.size_alloc]; omega))
  have xb := ((At2.start (w.alloc (.cells #[.bool m, .slice a n c] 25)) (.bool m') (.slice a' n' c') 25).next (below_alloc1 _ (.cells #[.int .i64 0, .bool false, .slice none 0 0, .bool false, .slice none 0 0] 37))).next hb1
  simp only [World.size_alloc] at xb
  have z1 := hb1.size
  simp only [World.size_alloc] at z1
  obtain ⟨b0, b1, blt⟩ := id xb
  clear hb1 hf
  go_wp2_with fail
  refine (iFault_any m' _ n' f' _ (hL'.below bel1)).mono ?_
  rintro e w2 ⟨rfl, hb2⟩
  rw [hf']
  have r2 := (hb2.block _ (by omega)).trans r1
  have xb2 := xb.next hb2
  have bel := bel1.trans (hb2.mono bel1.size)
  clear hb2 hf' b0 b1 blt r1 bel1 xb
  obtain ⟨b0, b1, blt⟩ := id xb2
  obtain ⟨c0, c1, c2, c3, c4, f0, f1, f2, f3, f4⟩ := Res5.of r2
  clear r2
  go_wp2_with fail
  refine bodyPost_ret (v := .agg #[.int .i64 1, .bool false, .slice none 0 0, .bool false, .slice none 0 0]) (by simp [results, Try.results25, go_sem, c0, c1, c2, c3, c4]) rfl ⟨rfl, ?_⟩
  exact ((((bel.setCell (by show _ ≤ w.heap.size + 1 + 1; omega) _).setCell (by show _ ≤ w.heap.size + 1 + 1; omega) _).setCell (by show _ ≤ w.heap.size + 1 + 1; omega) _).setCell (by show _ ≤ w.heap.size + 1 + 1; omega) _).setCell (by show _ ≤ w.heap.size + 1 + 1; omega) _

set_option maxHeartbeats 1000000 in
set_option maxRecDepth 100000 in
theorem iDiv_zero (m m' : Bool) (v v' : Value) (n n' : Nat) (f f' : Nat → Nat) (w : World) (hL : Lim w v n f) (hL' : Lim w v' n' f') (hf : faultB m n f = false) (hf' : faultB m' n' f' = false) (h0 : n' = 0) :
    Calls Try.prog 25 #[.agg #[.bool m, v], .agg #[.bool m', v']] w fun e w' => e = .returned (.agg #[.int .i64 3, .bool false, .slice none 0 0, .bool false, .slice none 0 0]) ∧ Below w.heap.size w w' := by
  obtain ⟨a, c, rfl, -⟩ := id hL
  obtain ⟨a', c', rfl, -⟩ := id hL'
  subst h0
  go_enter Try.func25, Try.ntmps25
  go_wp2_with fail
  refine (iFault_any m _ n f _ (hL.below (below_alloc3 _ _ _ _))).mono ?_
  rintro e w1 ⟨rfl, hb1⟩
  rw [hf]
  have r1 := (hb1.block _ (by simp)).trans (res_block m m' _ _ w)
  have bel1 : Below w.heap.size w w1 := (below_alloc3 _ _ _ _).trans (hb1.mono (by simp only [World.size_alloc]; omega))
  have xb := ((At2.start (w.alloc (.cells #[.bool m, .slice a n c] 25)) (.bool m') (.slice a' 0 c') 25).next (below_alloc1 _ (.cells #[.int .i64 0, .bool false, .slice none 0 0, .bool false, .slice none 0 0] 37))).next hb1
  simp only [World.size_alloc] at xb
  have z1 := hb1.size
  simp only [World.size_alloc] at z1
  obtain ⟨b0, b1, blt⟩ := id xb
  clear hb1 hf
  go_wp2_with fail
  refine (iFault_any m' _ 0 f' _ (hL'.below bel1)).mono ?_
  rintro e w2 ⟨rfl, hb2⟩
  rw [hf']
  have r2 := (hb2.block _ (by omega)).trans r1
  have xb2 := xb.next hb2
  have bel := bel1.trans (hb2.mono bel1.size)
  clear hb2 hf' b0 b1 blt r1 bel1 xb
  obtain ⟨b0, b1, blt⟩ := id xb2
  obtain ⟨c0, c1, c2, c3, c4, f0, f1, f2, f3, f4⟩ := Res5.of r2
  clear r2
  go_wp2_with fail
  refine bodyPost_ret (v := .agg #[.int .i64 3, .bool false, .slice none 0 0, .bool false, .slice none 0 0]) (by simp [results, Try.results25, go_sem, c0, c1, c2, c3, c4]) rfl ⟨rfl, ?_⟩
  exact ((((bel.setCell (by show _ ≤ w.heap.size + 1 + 1; omega) _).setCell (by show _ ≤ w.heap.size + 1 + 1; omega) _).setCell (by show _ ≤ w.heap.size + 1 + 1; omega) _).setCell (by show _ ≤ w.heap.size + 1 + 1; omega) _).setCell (by show _ ≤ w.heap.size + 1 + 1; omega) _

end Go.Proofs.Ytpcnmolncoaddaa

namespace Go.Proofs.Ytpcnmolncoaddaa
open Go.RowKit Go.Joins

theorem dv_int (A B : Int) (hB : B ≠ 0) :
    ∃ Q R : Int, A = Q * B + R ∧ R.natAbs < B.natAbs ∧ Q.natAbs = dvQ (decide (A < 0) != decide (B < 0)) A.natAbs B.natAbs ∧ R.natAbs = dvR (decide (A < 0) != decide (B < 0)) A.natAbs B.natAbs ∧
      (Q ≠ 0 → (decide (A < 0) != decide (B < 0)) = decide (Q < 0)) ∧ (R ≠ 0 → decide (B < 0) = decide (R < 0)) := by
  obtain ⟨X, hX⟩ : ∃ X, X = A.natAbs := ⟨_, rfl⟩
  obtain ⟨Y, hY⟩ : ∃ Y, Y = B.natAbs := ⟨_, rfl⟩
  have e : Y * (X / Y) + X % Y = X := Nat.div_add_mod X Y
  have hr : X % Y < Y := Nat.mod_lt _ (by omega)
  rw [← hX, ← hY]
  unfold dvQ dvR
  generalize X / Y = q at *
  generalize X % Y = r at *
  have e' : (Y : Int) * q + r = X := by rw [← e]; push_cast; rfl
  have k0 : (q : Int) * Y = Y * q := Int.mul_comm _ _
  have k1 : ((q : Int) + 1) * Y = Y * q + Y := by rw [Int.add_mul, Int.one_mul, k0]
  by_cases a : A < 0 <;> by_cases b : B < 0
  · have ea : A = -(X : Int) := by omega
    have eb : B = -(Y : Int) := by omega
    refine ⟨q, -(r : Int), ?_, by omega, by simp [a, b], by simp [a, b], fun h => ?_, fun h => ?_⟩
    · rw [ea, eb, Int.mul_neg, k0]; omega
    · simp [a, b]
    · simp [b]; omega
  · have ea : A = -(X : Int) := by omega
    have eb : B = (Y : Int) := by omega
    by_cases z : 0 < r
    · refine ⟨-((q : Int) + 1), (Y : Int) - r, ?_, by omega, ?_, ?_, fun h => ?_, fun h => ?_⟩
      · rw [ea, eb, Int.neg_mul, k1]; omega
      · simp [a, b, z]; omega
      · simp [a, b, z]; omega
      · simp [a, b] <;> omega
      · simp [b]; omega
    · refine ⟨-(q : Int), 0, ?_, by omega, ?_, ?_, fun h => ?_, fun h => absurd rfl h⟩
      · rw [ea, eb, Int.neg_mul, k0]; omega
      · simp [a, b, z]
      · simp [a, b, z]; omega
      · simp [a, b]; omega
  · have ea : A = (X : Int) := by omega
    have eb : B = -(Y : Int) := by omega
    by_cases z : 0 < r
    · refine ⟨-((q : Int) + 1), -((Y : Int) - r), ?_, by omega, ?_, ?_, fun h => ?_, fun h => ?_⟩
      · rw [ea, eb, Int.neg_mul_neg, k1]; omega
      · simp [a, b, z]; omega
      · simp [a, b, z]; omega
      · simp [a, b] <;> omega
      · simp [b]; omega
    · refine ⟨-(q : Int), 0, ?_, by omega, ?_, ?_, fun h => ?_, fun h => absurd rfl h⟩
      · rw [ea, eb, Int.neg_mul_neg, k0]; omega
      · simp [a, b, z]
      · simp [a, b, z]; omega
      · simp [a, b]; omega
  · have ea : A = (X : Int) := by omega
    have eb : B = (Y : Int) := by omega
    refine ⟨q, r, ?_, by omega, by simp [a, b], by simp [a, b], fun h => ?_, fun h => ?_⟩
    · rw [ea, eb, k0]; omega
    · simp [a, b]
    · simp [b]

theorem ext_norm {D : Nat → Nat} {N Z : Nat} (h : Norm D N Z) : ext N D = D := by
  funext i
  unfold ext
  by_cases hi : i < N
  · rw [if_pos hi]
  · rw [if_neg hi, h.zero i (by omega)]

theorem num_own {w' : World} {v : Value} {N B1 : Nat} {D : Nat → Nat} {Z : Int} {S : Bool} (ho : Own B1 w' v N D) (hN : Norm D N Z.natAbs) (hz : Z.natAbs < Lid) (hS : Z ≠ 0 → S = decide (Z < 0)) :
    Num w' (S && decide (0 < N)) v N D Z := by
  have hle : N ≤ 40 := hN.count hz
  have hp := hN.pos
  refine ⟨ho.lim, ?_, by rw [ext_norm hN]; exact hN, ?_⟩
  · unfold faultB
    split
    · have : ¬ 0 < N := by omega
      simp [this]
    · have := hN.top (by omega)
      have h40 : ¬ 40 < N := by omega
      simp [h40, this]
  · by_cases h0 : Z = 0
    · subst h0
      have : ¬ 0 < N := by intro h; have := hp.1 h; simp at this
      simp [this]
    · rw [hS h0]
      have : 0 < N := hp.2 (by omega)
      simp [this]

theorem dvQ_le (s : Bool) (X Y : Nat) : dvQ s X Y ≤ X ∨ Y = 0 := by
  by_cases hY : Y = 0
  · exact Or.inr hY
  · refine Or.inl ?_
    unfold dvQ
    by_cases h : s = true ∧ 0 < X % Y
    · rw [if_pos h]
      have h2 : 1 < Y := by
        apply Decidable.byContradiction
        intro hn
        have : Y = 1 := by omega
        subst this
        have := h.2
        rw [Nat.mod_one] at this
        omega
      have hx : 0 < X := Nat.lt_of_lt_of_le h.2 (Nat.mod_le _ _)
      exact Nat.div_lt_self hx h2
    · rw [if_neg h]
      exact Nat.div_le_self _ _

theorem iDivZ {m m' : Bool} {v v' : Value} {n n' : Nat} {f f' : Nat → Nat} {w : World} {A B : Int} (h : Num w m v n f A) (h' : Num w m' v' n' f' B) (hB : B ≠ 0) :
    Calls Try.prog 25 #[.agg #[.bool m, v], .agg #[.bool m', v']] w fun e w' => ∃ (Q R : Int) (S S' : Bool) (u u' : Value) (N N' : Nat) (D D' : Nat → Nat) (B1 : Nat),
      A = Q * B + R ∧ R.natAbs < B.natAbs ∧ (R ≠ 0 → decide (B < 0) = decide (R < 0)) ∧ e = .returned (.agg #[.int .i64 0, .bool S, u, .bool S', u']) ∧
      Own w.heap.size w' u N D ∧ In w.heap.size B1 u N ∧ Num w' S u N D Q ∧ Own B1 w' u' N' D' ∧ w.heap.size ≤ B1 ∧ Num w' S' u' N' D' R ∧ Below w.heap.size w w' := by
  obtain ⟨a, c, rfl, -⟩ := id h.lim
  obtain ⟨a', c', rfl, -⟩ := id h'.lim
  have hp : 0 < n' := h'.norm.pos.2 (by omega)
  obtain ⟨Q, R, h1, h2, h3, h4, h5, h6⟩ := dv_int A B hB
  rw [← h.sign, ← h'.sign] at h3 h4 h5
  refine (iDiv_core m m' a a' n c n' c' f f' A B w h h' hp).mono ?_
  rintro e w' ⟨u, u', N, N', D, D', B1, rfl, o1, i1, o2, l1, q1, q2, bel⟩
  rw [← h3] at q1
  rw [← h4] at q2
  refine ⟨Q, R, _, _, u, u', N, N', D, D', B1, h1, h2, h6, rfl, o1, i1, num_own o1 q1 ?_ h5, o2, l1, num_own o2 q2 ?_ (fun hz => by rw [h'.sign]; exact h6 hz), bel⟩
  · have hl := dvQ_le (m != m') A.natAbs B.natAbs
    exact Nat.lt_of_le_of_lt (by rw [h3]; exact hl.resolve_right (by omega)) h.lid
  · exact Nat.lt_trans h2 h'.lid

end Go.Proofs.Ytpcnmolncoaddaa

