import Derived.Test.YtmfngmkhdppnjaaHq
import Derived.Test.YtmfngmkhdppnjaaOr
namespace Go.Proofs.Ytmfngmkhdppnjaa
open Go.RowKit Go.Joins

/-- A row of ints of its own. -/
def MR (w : World) (v : Value) (L : List Nat) : Prop := w.ownsRow 0 3 1 v L.length (L.map iv)

theorem MR.cell {w : World} {b cap : Nat} {L : List Nat} {n : Nat} (h : MR w (.slice (some ⟨b, 0, none⟩) n cap) L) (hn : n = L.length) (i : Nat) (hi : i < L.length) : w.cell? ⟨b, i, none⟩ = some (.int .i64 (g L i : Nat)) := by
  subst hn
  have := World.ownsRow.cellAt h i (by omega)
  rw [this]
  simp [g_lt hi, iv]
theorem MR.frozen {w : World} {b cap : Nat} {L : List Nat} {n : Nat} (h : MR w (.slice (some ⟨b, 0, none⟩) n cap) L) (hn : n = L.length) (i : Nat) : w.frozen? ⟨b, i, none⟩ = false := by
  subst hn
  exact World.ownsRow.frozenAt h i
theorem MR.set {w : World} {b cap : Nat} {L : List Nat} {n : Nat} (h : MR w (.slice (some ⟨b, 0, none⟩) n cap) L) (hn : n = L.length) (i x : Nat) : MR (w.setCell ⟨b, i, none⟩ (.int .i64 (x : Int))) (.slice (some ⟨b, 0, none⟩) n cap) (L.set i x) := by
  subst hn
  have := (World.ownsRow.stored h i (.int .i64 (x : Int))).1
  unfold MR
  rw [List.map_set, List.length_set]
  exact this
theorem MR.lt {w : World} {v : Value} {L : List Nat} (h : MR w v L) : ∀ k, v.ownBlock = some k → k < w.heap.size := fun k hk => (World.ownsRow.lt h k hk).2
theorem MR.kept {w w' : World} {v : Value} {L : List Nat} (h : MR w v L) {S : Nat → Prop} (k : Kept S w w') (hS : ∀ c, v.ownBlock = some c → S c) : MR w' v L := by
  obtain ⟨h1, h2⟩ := h
  refine ⟨h1, ?_⟩
  rcases h2 with h2 | ⟨b, cap, cur, rfl, hb, hg, rest⟩
  · exact .inl h2
  · refine .inr ⟨b, cap, cur, rfl, hb, ?_, rest⟩
    have hlt : b < w.heap.size := (Array.getElem?_eq_some_iff.1 hg).1
    rw [k.block b hlt (hS b rfl)]
    exact hg

theorem IR.sl {B : Nat} {w : World} {v : Value} {L : List Nat} (h : IR B w v L) : ∃ a cap, v = .slice a L.length cap ∧ L.length ≤ cap := by
  rcases h.2 with ⟨rfl, h0⟩ | ⟨b, cap, cur, rfl, _, _, hc, _⟩
  · exact ⟨none, 0, by rw [h0], by omega⟩
  · exact ⟨_, cap, rfl, hc⟩

theorem IR.form2 {B : Nat} {w : World} {v : Value} {L : List Nat} (h : IR B w v L) (h0 : 0 < L.length) : ∃ b cap, v = .slice (some ⟨b, 0, none⟩) L.length cap ∧ L.length ≤ cap := by
  rcases h.2 with ⟨rfl, h0'⟩ | ⟨b, cap, cur, rfl, _, _, hc, _⟩
  · omega
  · exact ⟨b, cap, rfl, hc⟩

theorem run_none {D : Nat → List Nat} {n : Nat} {out : List Nat} (h : nxt D n out = none) : ∀ f, run D n f out = out
  | 0 => rfl
  | f + 1 => by rw [run, h]

theorem run_some {D : Nat → List Nat} {n f x : Nat} {out : List Nat} (h : nxt D n out = some x) : run D n (f + 1) out = run D n f (out ++ [x]) := by rw [run, h]

theorem IR.mono {B B' : Nat} {w : World} {v : Value} {L : List Nat} (h : IR B w v L) (hb : B' ≤ B) : IR B' w v L := by
  obtain ⟨h1, h2⟩ := h
  refine ⟨h1, ?_⟩
  rcases h2 with h2 | ⟨b, cap, cur, e, hB, r⟩
  · exact .inl h2
  · exact .inr ⟨b, cap, cur, e, Nat.le_trans hb hB, r⟩

theorem IR.nil (B : Nat) (w : World) : IR B w (.slice none 0 0) [] := ⟨rfl, .inl ⟨rfl, rfl⟩⟩

theorem HB.kept {w w' : World} {hb B : Nat} {v : Value} {L : List Nat} (h : HB w hb B v L) {S : Nat → Prop} (k : Kept S w w') (h1 : S hb) (h2 : ∀ c, v.ownBlock = some c → S c) : HB w' hb B v L :=
  ⟨Nat.lt_of_lt_of_le h.lt k.size, (k.cell (p := ⟨hb, 0, none⟩) h.lt h1).trans h.cell, (k.frozen (p := ⟨hb, 0, none⟩) h.lt h1).trans h.fr, h.row.kept k h2, h.ne, h.len⟩

theorem HB.new (w : World) : HB ((w.alloc (.cells #[] 2)).alloc (.cells #[.slice (some ⟨w.heap.size, 0, none⟩) 0 0] 59)) (w.heap.size + 1) w.heap.size (.slice (some ⟨w.heap.size, 0, none⟩) 0 0) [] := by
  have hc := cell_new (w.alloc (.cells #[] 2)) (.slice (some ⟨w.heap.size, 0, none⟩) 0 0) 59
  rw [World.size_alloc] at hc
  refine ⟨by simp, hc, ?_, ?_, by simp [Value.ownBlock], by simp⟩
  · have := heap_new (w.alloc (.cells #[] 2)) (.cells #[.slice (some ⟨w.heap.size, 0, none⟩) 0 0] 59)
    rw [World.size_alloc] at this
    unfold World.frozen?
    rw [this]
    simp
  · refine IR.alloc ?_ _
    exact ⟨rfl, .inr ⟨w.heap.size, 0, #[], rfl, Nat.le_refl _, heap_new w _, Nat.le_refl _, by unfold maxLen; omega, rfl, rfl⟩⟩

/-- What the first walk leaves. -/
structure PA (w wr : World) (M : List Nat) (i : Nat) (v : Value) (L : List Nat) : Prop where
  hb : HB wr (w.heap.size + 1) w.heap.size v L
  hp : Hp L L.length
  nd : L.Nodup
  mem : ∀ x, x ∈ L ↔ x < i ∧ g M x = 0
  bel : Below w.heap.size w wr

def lenOf : Value → Nat
  | .slice _ n _ => n
  | _ => 0

/-- What a round leaves. -/
structure PB (w wr : World) (mb n : Nat) (out : List Nat) (vo v : Value) (L M : List Nat) : Prop where
  hb : HB wr (w.heap.size + 1) w.heap.size v L
  hp : Hp L L.length
  row : IR (w.heap.size + 2) wr vo out
  dis : ∀ c, v.ownBlock = some c → vo.ownBlock ≠ some c
  ml : n = M.length
  mr : MR wr (.slice (some ⟨mb, 0, none⟩) n n) M
  kp : Kept (fun c => c ≠ mb) w wr

theorem miss_nil (D : Nat → List Nat) (i : Nat) : miss D [] i = (D i).length := by simp [miss]
theorem rdy_nil {D : Nat → List Nat} {x : Nat} : rdy D [] x = true ↔ (D x).length = 0 := by
  rw [rdy_iff]
  simp [List.eq_nil_iff_forall_not_mem]

theorem PB.pop {w wr w1 : World} {mb n : Nat} {out : List Nat} {vo : Value} {L M L' : List Nat} {b N m cap : Nat} (h : PB w wr mb n out vo (.slice (some ⟨b, 0, none⟩) N cap) L M) (hmb : mb < w.heap.size)
    (h1 : HB w1 (w.heap.size + 1) w.heap.size (.slice (some ⟨b, 0, none⟩) m cap) L') (hp : Hp L' L'.length) (k : Kept (fun c => c ≠ w.heap.size + 1 ∧ c ≠ b) wr w1) : PB w w1 mb n out vo (.slice (some ⟨b, 0, none⟩) m cap) L' M := by
  have hbl := (h.hb.row.lt b rfl).1
  refine ⟨h1, hp, h.row.kept k (fun c hc => ?_), h.dis, h.ml, h.mr.kept k (fun c hc => ?_), h.kp.then k (fun c hc hs => ⟨by omega, by omega⟩)⟩
  · have := (h.row.lt c hc).1
    exact ⟨by omega, fun e => h.dis b rfl (by rw [← e]; exact hc)⟩
  · simp only [Value.ownBlock, Option.some.injEq] at hc
    subst hc
    exact ⟨by omega, by omega⟩

theorem PB.put {w wr w0 w1 : World} {mb n x : Nat} {out : List Nat} {vo vo' v : Value} {L M : List Nat} (h : PB w wr mb n out vo v L M) (hmb : mb < w.heap.size) (k0 : Kept (fun _ => True) wr w0)
    (h1 : IR (w.heap.size + 2) w1 vo' (out ++ [x])) (hg : w0.grownBy w1 vo.ownBlock) (hat : vo.ownBlock = vo'.ownBlock ∨ vo'.ownBlock = some w0.heap.size) : PB w w1 mb n (out ++ [x]) vo' v L M := by
  have k1 : Kept (fun c => vo.ownBlock ≠ some c) wr w1 := (k0.mono (fun _ _ _ => trivial)).trans (Kept.grown hg (fun k hk hc => hc hk))
  have hvo := h.row.lt
  have hv := h.hb.row.lt
  have hz := k0.size
  refine ⟨h.hb.kept k1 (fun e => ?_) (fun c hc e => h.dis c hc e), h.hp, h1, fun c hc e => ?_, h.ml, h.mr.kept k1 (fun c hc e => ?_), h.kp.then k1 (fun c hc _ e => ?_)⟩
  · have := (hvo _ e).1; omega
  · rcases hat with e2 | e2
    · exact h.dis c hc (by rw [e2]; exact e)
    · rw [e2] at e
      simp only [Option.some.injEq] at e
      have := (hv c hc).2
      omega
  · simp only [Value.ownBlock, Option.some.injEq] at hc
    subst hc
    have := (hvo _ e).1; omega
  · have := (hvo _ e).1; omega

theorem PB.dec {w wr : World} {mb n : Nat} {out : List Nat} {vo v : Value} {L M : List Nat} (h : PB w wr mb n out vo v L M) (hmb : mb < w.heap.size) (i x : Nat) : PB w (wr.setCell ⟨mb, i, none⟩ (.int .i64 (x : Int))) mb n out vo v L (M.set i x) := by
  have k : Kept (fun c => c ≠ mb) wr (wr.setCell ⟨mb, i, none⟩ (.int .i64 (x : Int))) := Kept.setCell _ _ _ _ (by simp)
  refine ⟨h.hb.kept k (by omega) (fun c hc => ?_), h.hp, h.row.kept k (fun c hc => ?_), h.dis, by simp [h.ml], h.mr.set h.ml i x, h.kp.trans k⟩
  · have := (h.hb.row.lt c hc).1; omega
  · have := (h.row.lt c hc).1; omega

theorem PB.push {w wr w1 : World} {mb n m : Nat} {out : List Nat} {vo v : Value} {L M L' : List Nat} {b cap : Nat} (h : PB w wr mb n out vo v L M) (hmb : mb < w.heap.size)
    (h1 : HB w1 (w.heap.size + 1) w.heap.size (.slice (some ⟨b, 0, none⟩) m cap) L') (hp : Hp L' L'.length) (hat : v.ownBlock = some b ∨ wr.heap.size ≤ b) (k : Kept (fun c => c ≠ w.heap.size + 1 ∧ v.ownBlock ≠ some c) wr w1) :
    PB w w1 mb n out vo (.slice (some ⟨b, 0, none⟩) m cap) L' M := by
  have hvo := h.row.lt
  have hv := h.hb.row.lt
  refine ⟨h1, hp, h.row.kept k (fun c hc => ?_), fun c hc e => ?_, h.ml, h.mr.kept k (fun c hc => ?_), h.kp.then k (fun c hc _ => ⟨by omega, fun e => ?_⟩)⟩
  · have := (hvo c hc).1
    exact ⟨by omega, fun e => h.dis c e hc⟩
  · simp only [Value.ownBlock, Option.some.injEq] at hc
    subst hc
    rcases hat with e2 | e2
    · exact h.dis b e2 e
    · have := (hvo b e).2; omega
  · simp only [Value.ownBlock, Option.some.injEq] at hc
    subst hc
    exact ⟨by omega, fun e => by have := (hv _ e).1; omega⟩
  · have := (hv _ e).1; omega

set_option maxHeartbeats 2000000 in
set_option maxRecDepth 100000 in
theorem orderBy_any (n mb ib : Nat) (D : Nat → List Nat) (M : List Nat) (V : Nat → Value) (w : World) (hn : n ≤ 1048576) (hM : MR w (.slice (some ⟨mb, 0, none⟩) n n) M) (hl : n = M.length) (hne : ib ≠ mb) (hib : ib < w.heap.size)
    (hI : ∀ a, a < n → w.cell? ⟨ib, a, none⟩ = some (V a) ∧ IR 0 w (V a) (imp D n a) ∧ (V a).ownBlock ≠ some mb ∧ (imp D n a).length ≤ 1048576) (hm : ∀ i, i < n → g M i = (D i).length) (hD : ∀ i, i < n → (D i).length ≤ 1048576) :
    Calls Try.prog 21 #[.slice (some ⟨mb, 0, none⟩) n n, .slice (some ⟨ib, 0, none⟩) n n] w fun e w' => ∃ v, e = .returned v ∧ IR w.heap.size w' v (run D n n []) ∧ Kept (fun c => c ≠ mb) w w' := by
  have HM := hide hM
  have HI := hide hI
  have HL := hide hl
  have Hm := hide hm
  have HD := hide hD
  clear hD
  have hmb : mb < w.heap.size := hM.lt mb rfl
  clear hM hI hl hm
  go_enter Try.func21, Try.ntmps21
  go_upto_region 3 with fail
  have HA0 : Hid (PA w ((w.alloc (.cells #[] 2)).alloc (.cells #[.slice (some ⟨w.heap.size, 0, none⟩) 0 0] 59)) M 0 (.slice (some ⟨w.heap.size, 0, none⟩) 0 0) []) :=
    ⟨HB.new w, fun k _ h => by simp at h, List.nodup_nil, fun x => by simp, below_alloc2 w _ _⟩
  have z0 : ((w.alloc (.cells #[] 2)).alloc (.cells #[.slice (some ⟨w.heap.size, 0, none⟩) 0 0] 59)).heap.size = w.heap.size + 2 := by simp
  generalize (w.alloc (.cells #[] 2)).alloc (.cells #[.slice (some ⟨w.heap.size, 0, none⟩) 0 0] 59) = w0 at *
  have HZ0 := hide z0
  clear z0
  have hn0 : n ≤ 9223372036854775807 := by omega
  go_wp2_with fail
  go_loopw [16] (fun s wr => ∃ (i : Nat) (v : Value) (L : List Nat), s = .int .i64 i ∧ i ≤ n ∧ Hid (PA w wr M i v L)) (fun s _ => n - (intOf s).toNat)
  case atStart => exact ⟨0, _, [], rfl, Nat.zero_le _, HA0⟩
  case round =>
    clear HA0 HZ0
    obtain ⟨i, v, L, rfl, hi, HA⟩ := hrel
    by_cases hlt : i < n
    · have hlt' : (i : Int) < n := by omega
      have ci : wr.cell? ⟨mb, i, none⟩ = some (.int .i64 (g M i : Nat)) := (HA.out.bel.cell (p := ⟨mb, i, none⟩) hmb).trans (HM.out.cell HL.out i (by rw [← HL.out]; exact hlt))
      by_cases hz : g M i = 0
      · have hz' : (((g M i : Nat) : Int) == 0) = true := by simp [hz]
        have HZ := hide hz
        clear hz
        have hLn : Hid (L.length ≤ i) := nodup_len i L HA.out.nd (fun x hx => ((HA.out.mem x).1 hx).1)
        have HP := hide (push22 (w.heap.size + 1) w.heap.size v L i wr HA.out.hb HA.out.hp (by have := hLn.out; omega) HA.out.bel.size)
        go_wp2_with fail
        refine HP.out.mono ?_
        rintro e w1 ⟨rfl, b, cap, L', h1, p1, hh1, hat, k1⟩
        have HA1 : Hid (PA w w1 M (i + 1) (.slice (some ⟨b, 0, none⟩) (L.length + 1) cap) L') := by
          refine ⟨h1, hh1, ?_, fun x => ?_, Below.kept HA.out.bel k1 (fun c hc => ⟨by omega, fun e => ?_⟩) (Nat.le_refl _)⟩
          · rw [p1.nodup_iff, List.nodup_append]
            refine ⟨HA.out.nd, by simp, fun x hx y hy exy => ?_⟩
            simp only [List.mem_singleton] at hy
            subst hy exy
            have := ((HA.out.mem x).1 hx).1
            omega
          · rw [p1.mem_iff, List.mem_append, List.mem_singleton, HA.out.mem]
            constructor
            · rintro (⟨a1, a2⟩ | a1)
              · exact ⟨by omega, a2⟩
              · subst a1; exact ⟨by omega, HZ.out⟩
            · rintro ⟨a1, a2⟩
              by_cases e : x = i
              · exact .inr e
              · exact .inl ⟨by omega, a2⟩
          · have := (HA.out.hb.row.lt c e).1
            omega
        clear h1 p1 hh1 hat k1
        go_wp2_with fail
        go_roundw
        case rel => exact ⟨i + 1, _, L', by go_num, by omega, HA1⟩
        case measure => simp [intOf]; omega
      · have hz' : (((g M i : Nat) : Int) == 0) = false := by simp [hz]
        have HA1 : Hid (PA w wr M (i + 1) v L) := by
          refine ⟨HA.out.hb, HA.out.hp, HA.out.nd, fun x => ?_, HA.out.bel⟩
          rw [HA.out.mem]
          constructor
          · rintro ⟨a1, a2⟩; exact ⟨by omega, a2⟩
          · rintro ⟨a1, a2⟩
            refine ⟨?_, a2⟩
            by_cases e : x = i
            · subst e; exact absurd a2 hz
            · omega
        clear hz
        go_wp2_with fail
        go_roundw
        case rel => exact ⟨i + 1, v, L, by go_num, by omega, HA1⟩
        case measure => simp [intOf]; omega
    · have hlt' : ¬ (i : Int) < n := by omega
      obtain rfl : i = n := by omega
      have HS : Hid (Ks D i [] M L) := by
        refine ⟨fun k hk => by rw [miss_nil]; exact Hm.out k hk, fun x => ?_, HA.out.nd, fun x hx => by simp at hx, List.nodup_nil, fun x hx => by simp at hx⟩
        rw [HA.out.mem]
        constructor
        · rintro ⟨a1, a2⟩
          exact ⟨a1, rdy_nil.2 (by rw [← Hm.out x a1]; exact a2)⟩
        · rintro ⟨a1, a2⟩
          exact ⟨a1, by rw [Hm.out x a1]; exact rdy_nil.1 a2⟩
      have HB0 : Hid (PB w wr mb i [] (.slice none 0 0) v L M) := by
        refine ⟨HA.out.hb, HA.out.hp, IR.nil _ _, fun c _ e => by simp [Value.ownBlock] at e, HL.out, HM.out.kept (Kept.of_below HA.out.bel (fun c _ hc => hc) : Kept (fun c => c < w.heap.size) w wr) (fun c hc => ?_), Kept.of_below HA.out.bel (fun c hc _ => hc)⟩
        simp only [Value.ownBlock, Option.some.injEq] at hc
        omega
      clear HA HL HM Hm hi
      go_wp2_with fail
      go_loopw [5] (fun s wr => ∃ (out L Mc : List Nat) (v : Value), Hid (PB w wr mb i out s v L Mc) ∧ Hid (Ks D i out Mc L) ∧ Hid (run D i (i - out.length) out = run D i i [])) (fun s _ => i - (lenOf s))
      case atStart => exact ⟨[], L, M, v, HB0, HS, rfl⟩
      case round =>
        clear HB0 HS
        obtain ⟨out, L, Mc, v, HPB, HKs, HRun⟩ := hrel
        have hcell := HPB.out.hb.cell
        rcases Nat.eq_zero_or_pos L.length with hL0 | hL0
        · obtain ⟨a0, c0, ev, -⟩ := HPB.out.hb.row.sl
          rw [ev, hL0] at hcell
          go_wp2_with fail
          refine (len_any a0 0 c0 wr).mono ?_
          rintro e w1 ⟨rfl, rfl⟩
          go_wp2_with fail
          go_ret
          obtain rfl := List.length_eq_zero_iff.1 hL0
          have hr := HRun.out
          rw [run_none HKs.out.none] at hr
          rw [← hr]
          exact ⟨_, rfl, HPB.out.row.mono (by omega), HPB.out.kp⟩
        · obtain ⟨b, cap, ev, hcap⟩ := HPB.out.hb.row.form2 hL0
          subst ev
          obtain ⟨m, hm⟩ : ∃ m, L.length = m + 1 := ⟨L.length - 1, by omega⟩
          obtain ⟨N, hN⟩ : ∃ N, N = L.length := ⟨_, rfl⟩
          rw [← hN] at HPB hcell hcap
          have hNlen := HPB.out.hb.len
          have hN0 : 0 < N := by omega
          have hN1 : (0 : Int) < N := by omega
          have hNb : N ≤ 1048576 := by omega
          have ca := HPB.out.hb.row.cell hN 0 (by omega)
          obtain ⟨hnx, hmem⟩ := HKs.out.some HPB.out.hp (by omega)
          obtain ⟨han, har⟩ := (HKs.out.mem _).1 hmem
          have hao := (rdy_iff.1 har).1
          have HC := hide (pop24 (w.heap.size + 1) w.heap.size b N m cap L wr HPB.out.hb hN (by omega) hcap HPB.out.hp)
          have HMEM := hide hmem
          have HNX := hide hnx
          have HAO := hide hao
          obtain ⟨ia, iR, ib1, ibl⟩ := HI.out _ han
          generalize hga : g L 0 = a at *
          have hol : Hid (out.length < i) := by
            have h1 := nodup_len i (out ++ [a]) (by
              rw [List.nodup_append]
              refine ⟨HKs.out.ond, by simp, fun x hx y hy exy => ?_⟩
              simp only [List.mem_singleton] at hy
              subst hy exy
              exact hao hx) (fun x hx => by
              rcases List.mem_append.1 hx with h | h
              · exact HKs.out.olt x h
              · simp only [List.mem_singleton] at h
                omega)
            simp at h1
            exact h1
          clear hmem hnx har hga hm hN hL0 hNlen hao
          obtain ⟨c5, c5c, rfl, -⟩ := HPB.out.row.sl
          have hai : (a : Int) < i := by omega
          go_wp2_with fail
          refine (len_any _ N cap wr).mono ?_
          rintro e w1 ⟨rfl, rfl⟩
          go_wp2_with fail
          refine HC.out.mono ?_
          rintro e w2 ⟨r2, rfl, L2, h2, p2, hh2, k2⟩
          have HP2 := hide (HPB.out.pop hmb h2 hh2 k2)
          have HQ := hide (HKs.out.pop p2)
          clear h2 p2 hh2 k2
          have hz2 := HP2.out.hb.lt
          have hoi := hol.out
          have hs5 : Hid (∀ (b6 cap6 : Nat) (w6 : World), IR (w.heap.size + 2) w6 (.slice (some ⟨b6, 0, none⟩) (out.length + 1) cap6) (out ++ [a]) → (w2.alloc (.cells #[.int .i64 (a : Int)] 2)).grownBy w6 (Value.slice c5 out.length c5c).ownBlock → ((Value.slice c5 out.length c5c).ownBlock = some b6 ∨ b6 = (w2.alloc (.cells #[.int .i64 (a : Int)] 2)).heap.size) →
              PB w w6 mb i (out ++ [a]) (.slice (some ⟨b6, 0, none⟩) (out.length + 1) cap6) (.slice (some ⟨b, 0, none⟩) m cap) L2 Mc) := fun b6 cap6 w6 h1 h2 h3 =>
            HP2.out.put hmb (Kept.alloc _ _ _) h1 h2 (by
              rcases h3 with e | e
              · exact .inl e
              · exact .inr (by rw [e]; rfl))
          go_upto_region 13 with (at_builtin; refine ir_step 24 Try.underlying24 rfl _ _ rfl (w.heap.size + 2) _ _ out a ⟨w2.heap.size, 0, none⟩ rfl rfl (by simp; omega) (HP2.out.row.alloc _) (cell_new w2 _ 2) (by omega) ?_; intro b6 cap6 w6 hR6 hg6 hat6 hlt6)
          have HP6 := hide (hs5.out b6 cap6 w6 hR6 hg6 hat6)
          clear hR6 hg6 hat6 hlt6 hs5 HP2
          have c13 : w6.cell? ⟨ib, a, none⟩ = some (V a) := (HP6.out.kp.cell (p := ⟨ib, a, none⟩) hib hne).trans ia
          obtain ⟨pa, pc, ePa, -⟩ := iR.sl
          rw [ePa] at c13
          have HIR := hide iR
          have HIB := hide ib1
          obtain ⟨K, hK⟩ : ∃ K, K = (imp D i a).length := ⟨_, rfl⟩
          rw [← hK] at c13 ibl
          have HK := hide hK
          have HE := hide ePa
          clear iR ib1 ePa hK ia
          have hKb : K ≤ 9223372036854775807 := by omega
          go_wp2_with fail
          go_loopw [51] (fun s wr => ∃ (q : Nat) (L' Mq : List Nat) (v' : Value), s = .int .i64 q ∧ q ≤ K ∧ Hid (PB w wr mb i (out ++ [a]) (.slice (some ⟨b6, 0, none⟩) (out.length + 1) cap6) v' L' Mq) ∧ Hid (Kq D i out a q Mq L')) (fun s _ => K - (intOf s).toNat)
          case atStart => exact ⟨0, L2, Mc, _, rfl, Nat.zero_le _, HP6, HQ⟩
          case round =>
            clear c13 HP6 HQ
            obtain ⟨q, L', Mq, v', rfl, hq, HPq, HQq⟩ := hrel
            by_cases hqK : q < K
            · have hqK' : (q : Int) < K := by omega
              obtain ⟨vb, vc, evb, -⟩ := HIR.out.form2 (by rw [← HK.out]; omega)
              have evb2 := HE.out.symm.trans evb
              simp only [Value.slice.injEq] at evb2
              obtain ⟨rfl, -, rfl⟩ := evb2
              obtain ⟨x, hx⟩ : ∃ x, g (imp D i a) q = x := ⟨_, rfl⟩
              have hxq : (imp D i a)[q]? = some x := by rw [← hx]; exact g_lt (by rw [← HK.out]; exact hqK)
              have cq : wr.cell? ⟨vb, q, none⟩ = some (.int .i64 (x : Int)) := by
                have h1 := HIR.out.kept HPq.out.kp (fun c hc e => HIB.out (by rw [hc, e]))
                rw [evb] at h1
                rw [← hx]
                exact h1.cell rfl q (by rw [← HK.out]; exact hqK)
              obtain ⟨hxi, hxp, hxl⟩ := HQq.out.pos HAO.out hxq
              obtain ⟨y, hy⟩ : ∃ y, g Mq x = y + 1 := ⟨g Mq x - 1, by omega⟩
              have cx := HPq.out.mr.cell HPq.out.ml x (by rw [← HPq.out.ml]; exact hxi)
              have fx := HPq.out.mr.frozen HPq.out.ml x
              rw [hy] at cx
              have hy' : ((y + 1 : Nat) : Int) - 1 = (y : Int) := by omega
              have hy2 : (y : Int) + 1 - 1 = (y : Int) := by omega
              have hyb : y ≤ 1048576 := by
                have h1 := HQq.out.miss x hxi
                have h2 : Ytmfngmkhdppnjaa.miss D out x ≤ (D x).length := List.countP_le_length
                have h3 := HD.out x hxi
                omega
              have hxi' : (x : Int) < i := by omega
              have cs := World.cell?_setCell_same wr ⟨mb, x, none⟩ (.int .i64 (y : Int)) cx
              have HPd := hide (HPq.out.dec hmb x y)
              have eset : Mq.set x (g Mq x - 1) = Mq.set x y := by rw [hy]; rfl
              by_cases hy0 : y = 0
              · have hy0' : ((y : Int) == 0) = true := by simp [hy0]
                have hll : L'.length < 1048576 := by
                  have h1 := nodup_len i (L' ++ [x]) (by
                    rw [List.nodup_append]
                    refine ⟨HQq.out.nd, by simp, fun u hu z hz e => ?_⟩
                    simp only [List.mem_singleton] at hz
                    subst hz e
                    exact hxl hu) (fun u hu => by
                    rcases List.mem_append.1 hu with h | h
                    · rcases (HQq.out.mem u).1 h with h | h
                      · exact h.1
                      · exact (mem_imp.1 (List.mem_of_mem_take h.1)).1
                    · simp only [List.mem_singleton] at h; omega)
                  simp at h1
                  omega
                have HPu := hide (push22 (w.heap.size + 1) w.heap.size v' L' x (wr.setCell ⟨mb, x, none⟩ (.int .i64 (y : Int))) HPd.out.hb HPd.out.hp hll (by have := HPd.out.hb.lt; omega))
                have HST : Hid (∀ L3 : List Nat, L3.Perm (L' ++ [x]) → Kq D i out a (q + 1) (Mq.set x y) L3) := fun L3 h3 => by
                  rw [← eset]
                  exact HQq.out.step HAO.out hxq HPq.out.ml.symm (by rw [hy, if_pos (by omega)]; exact h3)
                clear HPq HQq hx hxq hy eset hxp hxl evb hy0
                go_wp2_with fail
                refine HPu.out.mono ?_
                rintro e w8 ⟨rfl, b8, cap8, L8, h8, p8, hh8, hat8, k8⟩
                have HP8 := hide (HPd.out.push hmb h8 hh8 hat8 k8)
                have HQ8 := hide (HST.out L8 p8)
                clear h8 p8 hh8 hat8 k8 HPu HST
                go_wp2_with fail
                go_roundw
                case rel => exact ⟨q + 1, L8, _, _, by go_num, by omega, HP8, HQ8⟩
                case measure => simp [intOf]; omega
              · have hy0' : ((y : Int) == 0) = false := by simp [hy0]
                have HST : Hid (Kq D i out a (q + 1) (Mq.set x y) L') := by
                  unfold Hid
                  rw [← eset]
                  exact HQq.out.step HAO.out hxq HPq.out.ml.symm (by rw [hy, if_neg (by omega)])
                clear HPq HQq hx hxq hy eset hxp hxl evb hy0
                go_wp2_with fail
                go_roundw
                case rel => exact ⟨q + 1, L', _, _, by go_num, by omega, HPd, HST⟩
                case measure => simp [intOf]; omega
            · have hqK' : ¬ (q : Int) < K := by omega
              obtain rfl : q = K := by omega
              have HKs2 := hide (HQq.out.done HKs.out HMEM.out (by rw [← HK.out]; omega))
              have HR2 : Hid (run D i (i - (out ++ [a]).length) (out ++ [a]) = run D i i []) := by
                have h1 := HRun.out
                have h2 : i - out.length = (i - (out ++ [a]).length) + 1 := by simp; omega
                rw [h2, run_some HNX.out] at h1
                exact h1
              go_wp2_with fail
              go_roundw
              case rel => exact ⟨out ++ [a], L', Mq, v', HPq, HKs2, HR2⟩
              case measure => simp [lenOf]; omega
end Go.Proofs.Ytmfngmkhdppnjaa
