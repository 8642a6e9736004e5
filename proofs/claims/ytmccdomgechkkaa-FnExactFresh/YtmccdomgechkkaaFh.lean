import Derived.Test.YtmccdomgechkkaaFg
import Derived.Deep.LoopGhost
namespace Go.Proofs.Ytmccdomgechkkaa
open Go.RowKit Go.Joins

/-- A book and a set of its numbers: those of the texts of A. -/
structure FJ (w : World) (B0 b M : Nat) (g1 g2 g3 : Option Nat) (s : Nat) (g : Option Nat) (T : List ByteArray) (L R : List Nat) (A : List ByteArray) : Prop where
  nb : NB w B0 b M g1 g2 g3 T L
  li : LI T L
  ns : NS w B0 s g R
  dj : ∀ c, OwnS s g c → ¬ OwnB b M g1 g2 g3 c
  rel : ∀ n : Nat, R[n]? = some 1 ↔ ∃ t, T[n]? = some t ∧ t ∈ A
  sub : ∀ t ∈ A, t ∈ T
  rl : R.length ≤ T.length

theorem nodup_get {T : List ByteArray} (h : T.Nodup) {m n : Nat} {t : ByteArray} (h1 : T[m]? = some t) (h2 : T[n]? = some t) : m = n := by
  obtain ⟨a1, a2⟩ := List.getElem?_eq_some_iff.1 h1
  obtain ⟨b1, b2⟩ := List.getElem?_eq_some_iff.1 h2
  rcases Nat.lt_trichotomy m n with e | e | e
  · exact absurd (a2.trans b2.symm) (List.pairwise_iff_getElem.1 h m n a1 b1 e)
  · exact e
  · exact absurd (b2.trans a2.symm) (List.pairwise_iff_getElem.1 h n m b1 a1 e)

theorem NS.hi {w : World} {B0 s : Nat} {g : Option Nat} {R : List Nat} (h : NS w B0 s g R) (c : Nat) (hc : OwnS s g c) : B0 ≤ c ∧ c < w.heap.size := by
  rcases hc with e | e
  · rw [e]
    exact ⟨h.lo, h.r.lt⟩
  · exact h.r.bl c e

/-- The book grows. -/
theorem FJ.ext {w w' : World} {B0 b M s : Nat} {g1 g2 g3 h1 h2 h3 g : Option Nat} {T T' : List ByteArray} {L L' R : List Nat} {A : List ByteArray} (h : FJ w B0 b M g1 g2 g3 s g T L R A) (nb : NB w' B0 b M h1 h2 h3 T' L') (li : LI T' L') (hp : T <+: T') (ch : Ch w w' b M g1 g2 g3 h1 h2 h3) : FJ w' B0 b M h1 h2 h3 s g T' L' R A := by
  refine ⟨nb, li, h.ns.kept ch.kept h.dj, fun c hc hb => ?_, fun n => ⟨fun hn => ?_, fun hn => ?_⟩, fun t ht => hp.subset (h.sub t ht), Nat.le_trans h.rl hp.length_le⟩
  · rcases ch.new c hb with e | e
    · exact h.dj c hc e
    · have := (h.ns.hi c hc).2
      omega
  · obtain ⟨t, a, b⟩ := (h.rel n).1 hn
    exact ⟨t, pre_get hp a, b⟩
  · obtain ⟨t, a, b⟩ := hn
    obtain ⟨m, hm⟩ := List.getElem?_of_mem (h.sub t b)
    have e := nodup_get nb.nd (pre_get hp hm) a
    rw [e] at hm
    exact (h.rel n).2 ⟨t, hm, b⟩

/-- The set grows. -/
theorem FJ.more {w w' : World} {B0 b M s i : Nat} {g1 g2 g3 g g' : Option Nat} {T : List ByteArray} {L R R' : List Nat} {A : List ByteArray} {x : ByteArray} (h : FJ w B0 b M g1 g2 g3 s g T L R A) (hi : T[i]? = some x) (a : AdS w w' B0 s g R i g' R') : FJ w' B0 b M g1 g2 g3 s g' T L R' (A ++ [x]) := by
  refine ⟨h.nb.kept a.kept (fun c hc hs => h.dj c hs hc), h.li, a.ns, fun c hc hb => ?_, fun n => ⟨fun hn => ?_, fun hn => ?_⟩, fun t ht => ?_, ?_⟩
  · rcases a.new c hc with e | e
    · exact h.dj c e hb
    · have := (h.nb.nx.lo c hb).2
      omega
  · rcases (a.mem n).1 hn with e | e
    · obtain ⟨t, p, q⟩ := (h.rel n).1 e
      exact ⟨t, p, List.mem_append.2 (.inl q)⟩
    · rw [e]
      exact ⟨x, hi, by simp⟩
  · obtain ⟨t, p, q⟩ := hn
    rcases List.mem_append.1 q with e | e
    · exact (a.mem n).2 (.inl ((h.rel n).2 ⟨t, p, e⟩))
    · rw [List.mem_singleton] at e
      rw [e] at p
      exact (a.mem n).2 (.inr (nodup_get h.nb.nd p hi))
  · rcases List.mem_append.1 ht with e | e
    · exact h.sub t e
    · rw [List.mem_singleton] at e
      rw [e]
      exact List.mem_of_getElem? hi
  · rcases a.len with e | e
    · exact Nat.le_trans e h.rl
    · have := (List.getElem?_eq_some_iff.1 hi).1
      omega

theorem FJ.keep {w w' : World} {B0 b M s : Nat} {g1 g2 g3 g : Option Nat} {T : List ByteArray} {L R : List Nat} {A : List ByteArray} (h : FJ w B0 b M g1 g2 g3 s g T L R A) (k : Below w.heap.size w w') : FJ w' B0 b M g1 g2 g3 s g T L R A :=
  ⟨h.nb.kept (kt (S := fun _ => True) k) (fun _ _ => trivial), h.li, h.ns.kept (kt (S := fun _ => True) k) (fun _ _ => trivial), h.dj, h.rel, h.sub, h.rl⟩

/-- Both, wherever they lie. -/
def FS (W0 w : World) (b s : Nat) (T A : List ByteArray) : Prop := ∃ M g1 g2 g3 g L R, FJ w W0.heap.size b M g1 g2 g3 s g T L R A ∧ Below W0.heap.size W0 w

theorem below_own {W0 w w' : World} (h : Below W0.heap.size W0 w) {S : Nat → Prop} (k : Kept S w w') (hS : ∀ c, ¬ S c → W0.heap.size ≤ c) : Below W0.heap.size W0 w' :=
  Below.kept h k (fun c hc => Classical.byContradiction fun hn => by have := hS c hn; omega) (Nat.le_refl _)

theorem FS.number {W0 w : World} {b s : Nat} {T A : List ByteArray} (h : FS W0 w b s T A) (x : ByteArray) (hx : x.size ≤ 16777216) (hT : T.length ≤ 16777216) :
    Calls Try.prog 13 #[.pointer (some ⟨b, 0, none⟩), .string x] w fun e w' => ∃ (i : Nat) (T' : List ByteArray), e = .returned (.int .i64 i) ∧ T'[i]? = some x ∧ T <+: T' ∧ T'.length ≤ T.length + 1 ∧ FS W0 w' b s T' A := by
  obtain ⟨M, g1, g2, g3, g, L, R, hj, hb⟩ := h
  refine (i_number hj.nb x hx hT hb.size).mono ?_
  rintro e w' ⟨i, T', L', h1, h2, h3, rfl, nu⟩
  exact ⟨i, T', rfl, nu.at_, nu.pre.1, nu.pre.2, M, h1, h2, h3, g, L', R, hj.ext nu.nb (nu.li hj.nb.len hj.li) nu.pre.1 nu.ch, below_own hb nu.ch.kept (fun c hc => (hj.nb.nx.lo c (Classical.not_not.1 hc)).1)⟩

theorem FS.add {W0 w : World} {b s : Nat} {T A : List ByteArray} (h : FS W0 w b s T A) (x : ByteArray) (i : Nat) (hi : T[i]? = some x) (hT : T.length ≤ 16777216) :
    Calls Try.prog 12 #[.pointer (some ⟨s, 0, none⟩), .int .i64 i] w fun e w' => (∃ v, e = .returned v) ∧ FS W0 w' b s T (A ++ [x]) := by
  obtain ⟨M, g1, g2, g3, g, L, R, hj, hb⟩ := h
  have hil := (List.getElem?_eq_some_iff.1 hi).1
  have hrl := hj.rl
  have fin : ∀ (e : Ending) (w' : World), (∃ v : Value, e = .returned v) ∧ (∃ g' R', AdS w w' W0.heap.size s g R i g' R') → (∃ v, e = .returned v) ∧ FS W0 w' b s T (A ++ [x]) := by
    rintro e w' ⟨hv, g', R', a⟩
    exact ⟨hv, M, g1, g2, g3, g', L, R', hj.more hi a, below_own hb a.kept (fun c hc => (hj.ns.hi c (Classical.not_not.1 hc)).1)⟩
  by_cases hm : R[i]? = some 1
  · exact (add_old hj.ns i hm (by omega)).mono (fun e w' h => fin e w' h)
  · exact (add_new hj.ns i hm (by omega) (by omega) hb.size).mono (fun e w' h => fin e w' h)

theorem FS.has {W0 w : World} {b s : Nat} {T A : List ByteArray} (h : FS W0 w b s T A) (x : ByteArray) (i : Nat) (hi : T[i]? = some x) (hT : T.length ≤ 16777216) (q : Bool) (hq : q = true ↔ x ∈ A) :
    Calls Try.prog 15 #[.pointer (some ⟨s, 0, none⟩), .int .i64 i] w fun e w' => e = .returned (.bool q) ∧ FS W0 w' b s T A := by
  obtain ⟨M, g1, g2, g3, g, L, R, hj, hb⟩ := h
  have hrl := hj.rl
  refine (i_has hj.ns i q ?_ (by omega)).mono ?_
  · rw [hq, hj.rel i]
    exact ⟨fun h => ⟨x, hi, h⟩, fun ⟨t, h1, h2⟩ => by rw [hi] at h1; rw [Option.some.inj h1]; exact h2⟩
  · rintro e w' ⟨rfl, k⟩
    exact ⟨rfl, M, g1, g2, g3, g, L, R, hj.keep k, hb.trans (k.mono hb.size)⟩

theorem FS.longer {W0 w : World} {b s : Nat} {T A : List ByteArray} (h : FS W0 w b s T A) (x : ByteArray) (i : Nat) (hi : T[i]? = some x) (hx : x.size ≤ 8388608) (hT : T.length ≤ 16777216) :
    Calls Try.prog 17 #[.pointer (some ⟨b, 0, none⟩), .int .i64 i] w fun e w' => ∃ (j : Nat) (T' : List ByteArray), e = .returned (.int .i64 j) ∧ T'[j]? = some (x ++ ⟨#[39]⟩) ∧ T'.length ≤ T.length + 1 ∧ FS W0 w' b s T' A := by
  obtain ⟨M, g1, g2, g3, g, L, R, hj, hb⟩ := h
  refine (i_longer hj.nb hj.li i x hi hx hT hb.size).mono ?_
  rintro e w' ⟨j, T', L', h1, h2, h3, rfl, o⟩
  exact ⟨j, T', rfl, o.at_, o.len, M, h1, h2, h3, g, L', R, hj.ext o.nb o.li o.pre o.ch, below_own hb o.ch.kept (fun c hc => (hj.nb.nx.lo c (Classical.not_not.1 hc)).1)⟩

set_option maxHeartbeats 4000000 in
set_option maxRecDepth 100000 in
/-- The search of the program. -/
theorem FS.fresh {W0 w : World} {b s : Nat} {T A : List ByteArray} (h : FS W0 w b s T A) (x : ByteArray) (i : Nat) (hi : T[i]? = some x) (hx : x.size ≤ 1048576) (hT : T.length ≤ 2097152) (hA : A.length ≤ 1048576) :
    Calls Try.prog 14 #[.pointer (some ⟨b, 0, none⟩), .int .i64 i, .pointer (some ⟨s, 0, none⟩)] w fun e w' => ∃ (k j : Nat) (T' : List ByteArray), FrK A x k ∧ e = .returned (.int .i64 j) ∧ T'[j]? = some (pr x k) ∧ FS W0 w' b s T' A := by
  have HC := hide (h.longer x i hi (by omega) (by omega))
  have HX := hide hx
  have HT := hide hT
  have HA := hide hA
  clear h hi hx hT hA
  go_enter Try.func14, Try.ntmps14
  go_upto_region 2 with (go_at_call 17; refine HC.out.mono ?_; rintro e W1 ⟨j1, T1, rfl, a1, l1, f1⟩)
  have A1 := hide a1
  have L1 : Hid (T1.length ≤ 2097152 + 1) := by have h1 := HT.out; have h2 := l1; unfold Hid; omega
  have F1 := hide f1
  clear a1 l1 f1 HC
  go_loopg [1] (lon A (x.size + 1)) (fun g s1 wr => ∃ (k j : Nat) (T' : List ByteArray), Hid (g = lon A (x.size + k)) ∧ s1 = .int .i64 (j : Int) ∧ Hid (T'[j]? = some (pr x k)) ∧ Hid (FrI A x k) ∧ Hid (T'.length ≤ 2097152 + k) ∧ Hid (FS W0 wr b s T' A))
  case atStart => exact ⟨1, j1, T1, rfl, rfl, A1, FrI.start A x, L1, F1⟩
  case round =>
    obtain ⟨k, j, T', hg, rfl, ha, hk, hl, hf⟩ := hrel
    have hsz : (pr x k).size ≤ 8388608 := by
      rw [pr_size]
      have h1 := hk.out.low
      have h2 := HA.out
      have h3 := HX.out
      omega
    have hTl : T'.length ≤ 16777216 := by
      have h1 := hk.out.low
      have h2 := HA.out
      have h3 := hl.out
      omega
    have hq : ∃ q : Bool, (q = true ↔ pr x k ∈ A) := by
      by_cases h : pr x k ∈ A
      · exact ⟨true, by simp [h]⟩
      · exact ⟨false, by simp [h]⟩
    obtain ⟨q, hq⟩ := hq
    have HC := hide (hf.out.has (pr x k) j ha.out hTl q hq)
    have HQ := hide hq
    have HSZ := hide hsz
    have HTL := hide hTl
    clear hq hsz hTl
    cases q with
    | true =>
      obtain ⟨h1, h2⟩ := hk.out.next (HQ.out.1 rfl)
      have H1 := hide h1
      have H2 := hide h2
      clear h1 h2 HQ
      go_upto_region 3 with (go_at_call 15; refine HC.out.mono ?_; rintro e W2 ⟨rfl, f2⟩)
      have HC2 := hide (f2.longer (pr x k) j ha.out HSZ.out HTL.out)
      clear f2
      go_wp2_with (go_at_call 17; refine HC2.out.mono ?_; rintro e W3 ⟨j3, T3, rfl, a3, l3, f3⟩)
      go_roundg (lon A (x.size + (k + 1)))
      case measure => rw [hg.out]; exact H2.out
      case rel => exact ⟨k + 1, j3, T3, rfl, rfl, a3, H1, by have h5 := hl.out; show T3.length ≤ _; omega, f3⟩
    | false =>
      have HK : Hid (FrK A x k) := ⟨hk.out.pos, hk.out.all, fun h => by have := HQ.out.2 h; simp at this⟩
      clear HQ
      go_wp2_with (go_at_call 15; refine HC.out.mono ?_; rintro e W2 ⟨rfl, f2⟩)
      go_ret
      exact ⟨k, j, T', HK.out, rfl, ha.out, f2⟩

end Go.Proofs.Ytmccdomgechkkaa
