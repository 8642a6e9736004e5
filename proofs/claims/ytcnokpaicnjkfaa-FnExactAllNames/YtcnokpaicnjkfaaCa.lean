import Derived.Test.YtcnokpaicnjkfaaKa
import Derived.Test.YtcnokpaicnjkfaaUt
import Derived.Test.YtcnokpaicnjkfaaCt
import Derived.Deep.RegionHeld3
import Derived.Deep.DeepCutAuto
namespace Go.Proofs.Ytcnokpaicnjkfaa
open Go.RowKit Go.Joins

/-- A row of texts in memory. -/
structure SR (V : World) (S : Nat → Prop) (a : Option Addr) (c : Nat) (L : List ByteArray) : Prop where
  le : L.length ≤ c
  mx : c ≤ maxLen
  at_ : L ≠ [] → ∃ b o, a = some ⟨b, o, none⟩ ∧ S b ∧ ∀ i x, L[i]? = some x → V.cell? ⟨b, o + i, none⟩ = some (.string x)

theorem SR.kept {A B : World} {S T : Nat → Prop} {a : Option Addr} {c : Nat} {L : List ByteArray} (h : SR A S a c L) (k : Kept T A B) (hS : ∀ b, S b → T b ∧ b < A.heap.size) : SR B S a c L :=
  ⟨h.le, h.mx, fun hl => by
    obtain ⟨b, o, e, s, hc⟩ := h.at_ hl
    exact ⟨b, o, e, s, fun i x hx => (k.cell (p := ⟨b, o + i, none⟩) (hS b s).2 (hS b s).1).trans (hc i x hx)⟩⟩

theorem SR.mono {A : World} {S T : Nat → Prop} {a : Option Addr} {c : Nat} {L : List ByteArray} (h : SR A S a c L) (hS : ∀ b, S b → T b) : SR A T a c L :=
  ⟨h.le, h.mx, fun hl => by
    obtain ⟨b, o, e, s, hc⟩ := h.at_ hl
    exact ⟨b, o, e, hS b s, hc⟩⟩

theorem SR.nil (A : World) (S : Nat → Prop) (a : Option Addr) (c : Nat) (h : c ≤ maxLen) : SR A S a c [] := ⟨Nat.zero_le _, h, fun hl => absurd rfl hl⟩

theorem rdS_fit : ∀ (n : Nat) (F : Fo), Fit E F (rep (E 1) n) → F.vals = (rdS F).map Value.string ∧ (rdS F).length = n
  | 0, F, h => by
    have e := fit_nil h
    subst e
    exact ⟨rfl, rfl⟩
  | n + 1, F, h => by
    replace h : Fit E F ([.t] ++ rep (E 1) n) := h
    obtain ⟨x, r, rfl, -, h⟩ := fit_t h
    obtain ⟨h1, h2⟩ := rdS_fit n r h
    exact ⟨by simp only [Fo.vals, rdS, List.map_cons, h1], by simp only [rdS, List.length_cons, h2]⟩

theorem sr_of {W : World} {S : Nat → Prop} {a : Option Addr} {n c : Nat} {F : Fo} (hf : Fit E F (rep (E 1) n)) (h : Fo.Sub W S a n c F) : SR W S a c (rdS F) ∧ (rdS F).length = n := by
  obtain ⟨h1, h2⟩ := rdS_fit n F hf
  refine ⟨⟨by rw [h2]; exact h.1, h.2.1, fun hl => ?_⟩, h2⟩
  have hlen : 0 < F.len := by
    rw [← Fo.vals_length, h1, List.length_map]
    exact List.length_pos_iff.2 hl
  obtain ⟨b, o, e, s, hc, -⟩ := h.2.2 hlen
  refine ⟨b, o, e, s, fun i x hx => hc i _ ?_⟩
  rw [h1, List.getElem?_map, hx]
  rfl

set_option maxHeartbeats 1000000 in
set_option maxRecDepth 100000 in
theorem m_in (a : Option Addr) (c : Nat) (L : List ByteArray) (x : ByteArray) (W : World) (S : Nat → Prop) (hs : SR W S a c L) (q : Bool) (hq : q = true ↔ x ∈ L) :
    Calls Try.prog 62 #[.slice a L.length c, .string x] W fun e W' => e = .returned (.bool q) ∧ Below W.heap.size W W' := by
  obtain ⟨n, hn⟩ : ∃ n, n = L.length := ⟨_, rfl⟩
  rw [← hn]
  have hmx : n ≤ 9223372036854775807 := by have h2 := hs.le; have h3 := hs.mx; simp only [maxLen] at h3; omega
  have HS := hide hs
  have HQ := hide hq
  clear hq
  have HN := hide hn
  clear hs hn
  go_enter Try.func62, Try.ntmps62
  go_wp2_with fail
  go_loopw [5] (fun s5 wr => ∃ i : Nat, s5 = .int .i64 i ∧ wr = W ∧ i ≤ n ∧ Hid (x ∈ L ↔ x ∈ L.drop i)) (fun s5 _ => n - (intOf s5).toNat)
  case atStart => exact ⟨0, rfl, rfl, Nat.zero_le _, Iff.rfl⟩
  case round =>
    obtain ⟨i, rfl, rfl, hin, hfd⟩ := hrel
    by_cases hi : i < n
    · have hii : (i : Int) < n := by omega
      have hil : i < L.length := by rw [← HN.out]; exact hi
      obtain ⟨y, hy⟩ : ∃ y, L[i]? = some y := ⟨_, List.getElem?_eq_getElem hil⟩
      obtain ⟨b, o, rfl, -, hc⟩ := HS.out.at_ (List.length_pos_iff.1 (by omega))
      have y0 := hc i y hy
      have hd : L.drop i = y :: L.drop (i + 1) := by
        rw [List.drop_eq_getElem_cons hil]
        congr 1
        exact (List.getElem?_eq_some_iff.1 hy).2
      have hfe := hfd.out
      rw [hd, List.mem_cons] at hfe
      clear hc hd hy hil hfd
      by_cases h1 : y = x
      · have HT : Hid (q = true) := HQ.out.2 (hfe.2 (.inl h1.symm))
        subst h1
        clear hfe
        go_wp2_with fail
        go_ret
        exact ⟨by rw [HT.out]; rfl, Below.refl _ _⟩
      · have h1' := list_ne h1
        have HT : Hid (x ∈ L ↔ x ∈ L.drop (i + 1)) := ⟨fun h => (hfe.1 h).resolve_left (fun e => h1 e.symm), fun h => hfe.2 (.inr h)⟩
        clear hfe h1
        go_wp2_with fail
        go_roundw
        case rel => exact ⟨i + 1, by go_num, trivial, by omega, HT⟩
        case measure => simp [intOf]; omega
    · have HT : Hid (q = false) := by
        cases hqq : q with
        | false => rfl
        | true =>
          have h2 := hfd.out.1 (HQ.out.1 hqq)
          rw [List.drop_eq_nil_of_le (by rw [← HN.out]; omega)] at h2
          exact absurd h2 List.not_mem_nil
      clear hfd
      go_wp2_with fail
      go_ret
      exact ⟨by rw [HT.out]; rfl, Below.refl _ _⟩

theorem SR.below {A B : World} {S : Nat → Prop} {a : Option Addr} {c m : Nat} {L : List ByteArray} (h : SR A S a c L) (k : Below m A B) (hS : ∀ b, S b → b < m) : SR B S a c L :=
  ⟨h.le, h.mx, fun hl => by
    obtain ⟨b, o, e, s, hc⟩ := h.at_ hl
    exact ⟨b, o, e, s, fun i x hx => (k.cell (p := ⟨b, o + i, none⟩) (hS b s)).trans (hc i x hx)⟩⟩

theorem take_snoc {L : List ByteArray} {i : Nat} {y : ByteArray} (h : L[i]? = some y) : L.take (i + 1) = L.take i ++ [y] := by
  rw [List.take_add_one, h]
  rfl

theorem nodup_snoc {L : List ByteArray} {x : ByteArray} : (L ++ [x]).Nodup ↔ L.Nodup ∧ x ∉ L := by
  rw [List.nodup_append]
  constructor
  · rintro ⟨h1, -, h3⟩
    exact ⟨h1, fun hx => h3 x hx x List.mem_cons_self rfl⟩
  · rintro ⟨h1, h2⟩
    exact ⟨h1, by simp, fun a ha b hb e => by rw [List.mem_singleton.1 hb] at e; exact h2 (e ▸ ha)⟩

set_option maxHeartbeats 1000000 in
set_option maxRecDepth 100000 in
theorem m_twice (a : Option Addr) (c : Nat) (L : List ByteArray) (W : World) (nb : Nat) (hnb : nb ≤ W.heap.size) (hs : SR W (fun b => b < nb) a c L) (q : Bool) (hq : q = true ↔ ¬ L.Nodup) :
    Calls Try.prog 60 #[.slice a L.length c] W fun e W' => e = .returned (.bool q) ∧ Below W.heap.size W W' := by
  obtain ⟨n, hn⟩ : ∃ n, n = L.length := ⟨_, rfl⟩
  rw [← hn]
  have hmx : n ≤ 9223372036854775807 := by have h2 := hs.le; have h3 := hs.mx; simp only [maxLen] at h3; omega
  have HS := hide hs
  have HQ := hide hq
  have HB := hide hnb
  have HN := hide hn
  clear hs hn hq hnb
  go_enter Try.func60, Try.ntmps60
  go_wp2_with fail
  go_loopw [3] (fun s3 wr => ∃ i : Nat, s3 = .int .i64 i ∧ i ≤ n ∧ Hid ((L.take i).Nodup) ∧ Hid (Below W.heap.size W wr)) (fun s3 _ => n - (intOf s3).toNat)
  case atStart => exact ⟨0, rfl, Nat.zero_le _, List.nodup_nil, Below.refl _ _⟩
  case round =>
    obtain ⟨i, rfl, hin, hnd, hbw⟩ := hrel
    by_cases hi : i < n
    · have hii : (i : Int) < n := by omega
      have hil : i < L.length := by rw [← HN.out]; exact hi
      obtain ⟨y, hy⟩ : ∃ y, L[i]? = some y := ⟨_, List.getElem?_eq_getElem hil⟩
      have HY := hide hy
      clear hy hil
      go_wp2_with fail
      go_loopw [4] (fun s4 wr => ∃ k : Nat, s4 = .int .i64 k ∧ k ≤ i ∧ Hid (y ∉ L.take k) ∧ Hid (Below W.heap.size W wr)) (fun s4 _ => i - (intOf s4).toNat)
      case atStart => exact ⟨0, rfl, Nat.zero_le _, List.not_mem_nil, hbw⟩
      case round =>
        obtain ⟨k, rfl, hki, hyk, hbr⟩ := hrel
        by_cases hk : k < i
        · have hkk : (k : Int) < i := by omega
          have hkl : k < L.length := by rw [← HN.out]; omega
          obtain ⟨z, hz⟩ : ∃ z, L[k]? = some z := ⟨_, List.getElem?_eq_getElem hkl⟩
          have HT := HS.out.below hbr.out (fun b hb => by have := HB.out; omega)
          obtain ⟨b, o, rfl, -, hc⟩ := HT.at_ (List.length_pos_iff.1 (by omega))
          have y0 := hc i y HY.out
          have y1 := hc k z hz
          have HZ := hide hz
          have hd : Hid (Below W.heap.size W wr.drew) := hbr.out.drew
          have hin' : (i : Int) < n := by omega
          have hkn : (k : Int) < n := by omega
          have hkn' : k < n := by omega
          clear hc HT hz hkl
          by_cases h1 : y = z
          · have HR : Hid (q = true) := HQ.out.2 (fun hx => by
              have h2 := take_snoc HY.out
              have h3 : (L.take (i + 1)).Nodup := hx.sublist (List.take_sublist _ _)
              rw [h2, nodup_snoc] at h3
              refine h3.2 ?_
              rw [h1]
              exact List.mem_of_getElem? (i := k) (by rw [List.getElem?_take_of_lt hk]; exact HZ.out))
            have h1' : y.toList = z.toList := by rw [h1]
            clear h1
            go_wp2_with fail
            go_region
            all_goals
              go_wp2_with fail
              go_ret
              exact ⟨by rw [HR.out]; rfl, hd.out⟩
          · have h1' := list_ne h1
            have HK : Hid (y ∉ L.take (k + 1)) := by
              unfold Hid
              rw [take_snoc HZ.out, List.mem_append, List.mem_singleton]
              rintro (h | h)
              · exact hyk.out h
              · exact h1 h
            clear h1
            go_wp2_with fail
            go_region
            all_goals
              go_wp2_with fail
              go_roundw
              case rel => exact ⟨k + 1, by go_num, by omega, HK, hd⟩
              case measure => simp [intOf]; omega
        · have hkk : ¬ (k : Int) < i := by omega
          have HK : Hid ((L.take (i + 1)).Nodup) := by
            unfold Hid
            have e : k = i := by omega
            rw [take_snoc HY.out, nodup_snoc, ← e]
            exact ⟨by rw [e]; exact hnd.out, hyk.out⟩
          clear hyk hnd
          go_wp2_with fail
          go_roundw
          case rel => exact ⟨i + 1, by go_num, by omega, HK, hbr⟩
          case measure => simp [intOf]; omega
    · have HT : Hid (q = false) := by
        cases hqq : q with
        | false => rfl
        | true =>
          have h2 := hnd.out
          rw [List.take_of_length_le (by rw [← HN.out]; omega)] at h2
          exact absurd h2 (HQ.out.1 hqq)
      clear hnd
      go_wp2_with fail
      go_ret
      exact ⟨by rw [HT.out]; rfl, hbw.out⟩

theorem empty_iff (x : ByteArray) : x.toList = [] ↔ x = ⟨#[]⟩ := by
  rw [ByteArray.toList_eq]
  constructor
  · intro h
    exact ByteArray.ext (Array.ext' h)
  · rintro rfl
    rfl

theorem okNames_iff (L : List ByteArray) : okNames L ↔ (∀ x ∈ L, ¬ x.toList = []) ∧ L.Nodup := by
  unfold okNames
  refine and_congr_left fun _ => forall_congr' fun x => forall_congr' fun _ => ?_
  rw [empty_iff]

set_option maxHeartbeats 1000000 in
set_option maxRecDepth 100000 in
theorem m_names (a : Option Addr) (c : Nat) (L : List ByteArray) (W : World) (nb : Nat) (hnb : nb ≤ W.heap.size) (hs : SR W (fun b => b < nb) a c L) (q : Bool) (hq : q = true ↔ okNames L) :
    Calls Try.prog 59 #[.slice a L.length c] W fun e W' => e = .returned (.bool q) ∧ Below W.heap.size W W' := by
  rw [okNames_iff] at hq
  obtain ⟨q2, hq2⟩ : ∃ q2 : Bool, q2 = true ↔ ¬ L.Nodup := by
    by_cases h : L.Nodup
    · exact ⟨false, by simp [h]⟩
    · exact ⟨true, by simp [h]⟩
  have HTW := hide (m_twice a c L W nb hnb hs q2 hq2)
  obtain ⟨n, hn⟩ : ∃ n, n = L.length := ⟨_, rfl⟩
  rw [← hn] at HTW ⊢
  have hmx : n ≤ 9223372036854775807 := by have h2 := hs.le; have h3 := hs.mx; simp only [maxLen] at h3; omega
  have HS := hide hs
  have HQ := hide hq
  have HQ2 := hide hq2
  have HN := hide hn
  clear hs hn hq hnb hq2
  go_enter Try.func59, Try.ntmps59
  go_wp2_with fail
  go_loopw [3] (fun s3 wr => ∃ i : Nat, s3 = .int .i64 i ∧ i ≤ n ∧ wr = W ∧ Hid (∀ x ∈ L.take i, ¬ x.toList = [])) (fun s3 _ => n - (intOf s3).toNat)
  case atStart => exact ⟨0, rfl, Nat.zero_le _, rfl, fun x hx => absurd hx List.not_mem_nil⟩
  case round =>
    obtain ⟨i, rfl, hin, rfl, hnd⟩ := hrel
    by_cases hi : i < n
    · have hii : (i : Int) < n := by omega
      have hil : i < L.length := by rw [← HN.out]; exact hi
      obtain ⟨y, hy⟩ : ∃ y, L[i]? = some y := ⟨_, List.getElem?_eq_getElem hil⟩
      obtain ⟨b, o, rfl, -, hc⟩ := HS.out.at_ (List.length_pos_iff.1 (by omega))
      have y0 := hc i y hy
      have HY := hide hy
      clear hy hil hc
      by_cases h1 : y.toList = []
      · have HR : Hid (q = false) := by
          cases hqq : q with
          | false => rfl
          | true => exact absurd h1 ((HQ.out.1 hqq).1 y (List.mem_of_getElem? HY.out))
        have h2 : y.toList.isEmpty = true := by rw [h1]; rfl
        go_wp2_with fail
        go_ret
        exact ⟨by rw [HR.out]; rfl, Below.refl _ _⟩
      · have h2 : y.toList.isEmpty = false := by cases hh : y.toList with
          | nil => exact absurd hh h1
          | cons _ _ => rfl
        have h3 : (y.toList == []) = false := by cases hh : y.toList with
          | nil => exact absurd hh h1
          | cons _ _ => rfl
        have HK : Hid (∀ x ∈ L.take (i + 1), ¬ x.toList = []) := by
          unfold Hid
          rw [take_snoc HY.out]
          intro x hx
          rcases List.mem_append.1 hx with h | h
          · exact hnd.out x h
          · rw [List.mem_singleton.1 h]; exact h1
        go_wp2_with fail
        go_roundw
        case rel => exact ⟨i + 1, by go_num, by omega, trivial, HK⟩
        case measure => simp [intOf]; omega
    · have HT : Hid ((!q2) = q) := by
        have h2 := hnd.out
        rw [List.take_of_length_le (by rw [← HN.out]; omega)] at h2
        have h3 := HQ.out
        have h4 := HQ2.out
        by_cases hL : L.Nodup
        · rw [h3.2 ⟨h2, hL⟩]
          cases q2 with
          | false => rfl
          | true => exact absurd hL (h4.1 rfl)
        · rw [h4.2 hL]
          cases q with
          | false => rfl
          | true => exact absurd (h3.1 rfl).2 hL
      clear hnd
      go_wp2_with fail
      refine HTW.out.mono ?_
      rintro e w1 ⟨rfl, b1⟩
      have HB1 := hide b1
      clear b1 HTW
      go_wp2_with fail
      go_ret
      exact ⟨by rw [← HT.out]; rfl, HB1.out⟩


end Go.Proofs.Ytcnokpaicnjkfaa
