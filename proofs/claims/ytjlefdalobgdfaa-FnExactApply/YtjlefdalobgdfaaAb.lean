import Derived.Test.YtjlefdalobgdfaaAa
import Derived.Test.YtjlefdalobgdfaaTz
namespace Go.Proofs.Ytjlefdalobgdfaa
open Go.RowKit Go.Joins

theorem kt {S : Nat → Prop} {A B : World} (h : Below A.heap.size A B) : Kept S A B := ⟨h.os, h.tape, h.output, h.size, fun c hc _ => h.block c hc⟩

/-- A bind. -/
structure Bd where
  id : Int
  d : Nd

/-- What memory says of a bind. -/
structure Bd.At (x : Bd) (W : World) (nb b o : Nat) : Prop where
  wf : (Lit.int .i64 x.id).wf = true
  c : W.cell? ⟨b, o, none⟩ = some (.int .i64 x.id)
  at_ : x.d.At W (fun c => c < nb) b (o + 1)

/-- A slice of binds. -/
structure BL (W : World) (nb : Nat) (a : Option Addr) (n cap : Nat) (L : List Bd) : Prop where
  ln : L.length = n
  le : n ≤ cap
  mx : cap ≤ maxLen
  at_ : 0 < n → ∃ b o, a = some ⟨b, o, none⟩ ∧ b < nb ∧ ∀ (i : Nat) (x : Bd), L[i]? = some x → x.At W nb b (o + i * 5)

theorem Nd.At.kept {d : Nd} {A B : World} {nb b o : Nat} {S : Nat → Prop} (h : d.At A (fun c => c < nb) b o) (k : Kept S A B) (hS : ∀ c, c < nb → S c) (hb : b < nb) (hA : nb ≤ A.heap.size) : d.At B (fun c => c < nb) b o :=
  ⟨h.wf, h.wi, h.nm, (k.cell (p := ⟨b, o, none⟩) (by show b < _; omega) (hS _ hb)).trans h.c0, (k.cell (p := ⟨b, o + 1, none⟩) (by show b < _; omega) (hS _ hb)).trans h.ci, (k.cell (p := ⟨b, o + 2, none⟩) (by show b < _; omega) (hS _ hb)).trans h.c1, (k.cell (p := ⟨b, o + 3, none⟩) (by show b < _; omega) (hS _ hb)).trans h.c2, h.sl.kept k (fun c hc => ⟨hS c hc, by omega⟩)⟩

theorem BL.kept {A B : World} {nb : Nat} {a : Option Addr} {n cap : Nat} {L : List Bd} {S : Nat → Prop} (h : BL A nb a n cap L) (k : Kept S A B) (hS : ∀ c, c < nb → S c) (hA : nb ≤ A.heap.size) : BL B nb a n cap L :=
  ⟨h.ln, h.le, h.mx, fun hn => by
    obtain ⟨b, o, e, hb, g⟩ := h.at_ hn
    exact ⟨b, o, e, hb, fun i x hx => ⟨(g i x hx).wf, (k.cell (p := ⟨b, o + i * 5, none⟩) (by show b < _; omega) (hS _ hb)).trans (g i x hx).c, (g i x hx).at_.kept k hS hb hA⟩⟩⟩

/-- The first bind of a variable. -/
def lookB (i : Int) : List Bd → Option Nd
  | [] => none
  | x :: r => if x.id = i then some x.d else lookB i r

theorem lookB_app {i : Int} : ∀ {A B : List Bd}, lookB i A = none → lookB i (A ++ B) = lookB i B
  | [], _, _ => rfl
  | x :: A, B, h => by
    unfold lookB at h
    split at h
    · cases h
    · rename_i hx
      have e : lookB i (x :: A ++ B) = if x.id = i then some x.d else lookB i (A ++ B) := rfl
      rw [e, if_neg hx]
      exact lookB_app h

theorem lookB_mem {i : Int} : ∀ {L : List Bd} {d : Nd}, lookB i L = some d → ∃ x ∈ L, x.d = d ∧ x.id = i
  | x :: L, d, h => by
    unfold lookB at h
    split at h
    · rename_i hx
      exact ⟨x, List.mem_cons_self, Option.some.inj h, hx⟩
    · obtain ⟨y, hy, e⟩ := lookB_mem h
      exact ⟨y, List.mem_cons_of_mem _ hy, e⟩

theorem lookB_none {i : Int} {A : List Bd} (h : ∀ x ∈ A, x.id ≠ i) : lookB i A = none := by
  cases e : lookB i A with
  | none => rfl
  | some d =>
    obtain ⟨x, hx, -, hi⟩ := lookB_mem e
    exact absurd hi (h x hx)

/-- What a type is bound to. -/
def sb (L : List Bd) (k ix : Int) : Option Nd := if k = 1 then lookB ix L else none

/-- A row with its variables as binds have them. -/
def Fo.ap (L : List Bd) : Fo → Fo
  | .nil => .nil
  | .cons k ix nm a cap ks r =>
    match sb L k ix with
    | some e => .cons e.k e.ix e.nm e.a e.cap e.ks (r.ap L)
    | none => .cons k ix nm a cap (ks.ap L) (r.ap L)

/-- What the binds make of it is not too deep. -/
def Fo.gd (L : List Bd) : Fo → Nat → Prop
  | .nil, _ => True
  | .cons k ix _ _ _ ks r, d =>
    match sb L k ix with
    | some e => e.fo.good d ∧ r.gd L d
    | none => d ≤ 200 ∧ ks.gd L (d + 1) ∧ r.gd L d

/-- How many types the binds make of it. -/
def Fo.cn (L : List Bd) : Fo → Nat
  | .nil => 0
  | .cons k ix _ _ _ ks r =>
    match sb L k ix with
    | some e => 1 + e.ks.size + r.cn L
    | none => 1 + ks.cn L + r.cn L

theorem Fo.ap_app (L : List Bd) : ∀ F G : Fo, (F.app G).ap L = (F.ap L).app (G.ap L)
  | .nil, _ => rfl
  | .cons k ix nm a cap ks r, G => by
    simp only [Fo.app, Fo.ap]
    split <;> simp only [Fo.app, r.ap_app L G]

theorem Fo.cn_eq (L : List Bd) : ∀ F : Fo, F.cn L = (F.ap L).size
  | .nil => rfl
  | .cons k ix nm a cap ks r => by
    simp only [Fo.cn, Fo.ap]
    split <;> simp only [Fo.size, r.cn_eq L, ks.cn_eq L]

noncomputable def allB : List Bd → Bool
  | [] => true
  | x :: r => !fltB x.d.k x.d.ix x.d.nm x.d.ks && allB r

theorem allB_app : ∀ A B : List Bd, allB (A ++ B) = (allB A && allB B)
  | [], B => by simp [allB]
  | x :: A, B => by simp only [List.cons_append, allB, allB_app A B, Bool.and_assoc]

set_option maxHeartbeats 1000000 in
set_option maxRecDepth 100000 in
theorem sbinds (a : Option Addr) (n cap : Nat) (L : List Bd) (W : World) (h : BL W W.heap.size a n cap L) :
    Calls Try.prog 53 #[.slice a n cap] W fun e W' => e = .returned (.bool (allB L)) ∧ Below W.heap.size W W' := by
  have hmx : n ≤ 9223372036854775807 := by have h2 := h.le; have h3 := h.mx; simp only [maxLen] at h3; omega
  have HBL := hide h
  clear h
  go_enter Try.func53, Try.ntmps53
  go_wp2_with fail
  go_loopw [3] (fun s3 wr => ∃ (i : Nat) (A B : List Bd), s3 = .int .i64 i ∧ i ≤ n ∧ Hid (L = A ++ B ∧ A.length = i ∧ allB A = true) ∧ Hid (Below W.heap.size W wr)) (fun s3 _ => n - (intOf s3).toNat)
  case atStart => exact ⟨0, [], L, rfl, Nat.zero_le _, ⟨rfl, rfl, rfl⟩, Below.refl _ _⟩
  case round =>
    obtain ⟨i, A, B, rfl, hin, hA, hB⟩ := hrel
    cases B with
    | nil =>
      have hi : i = n := by have h1 := hA.out; have h2 := HBL.out.ln; rw [h1.1, List.append_nil] at h2; omega
      subst hi
      have HE : Hid (allB L = true) := by unfold Hid; rw [hA.out.1, List.append_nil]; exact hA.out.2.2
      have HB := hide hB.out
      clear hA hB
      go_wp2_with fail
      go_ret
      exact ⟨by rw [HE.out]; rfl, HB.out⟩
    | cons x B =>
      have hi : i < n := by have h1 := hA.out; have h2 := HBL.out.ln; rw [h1.1, List.length_append, List.length_cons] at h2; omega
      have hii : (i : Int) < n := by omega
      have hx : L[i]? = some x := by rw [hA.out.1, ← hA.out.2.1]; simp
      obtain ⟨b, o, rfl, hb, hg⟩ := (HBL.out.kept (kt (S := fun _ => True) hB.out) (fun _ _ => trivial) (Nat.le_refl _)).at_ (by omega)
      have hat := (hg i x hx).at_
      have y0 : wr.cell? ⟨b, o + i * 5 + 1, none⟩ = some (.int .i64 x.d.k) := hat.c0
      have y1 : wr.cell? ⟨b, o + i * 5 + 1 + 1, none⟩ = some (.int .i64 x.d.ix) := hat.ci
      have y2 : wr.cell? ⟨b, o + i * 5 + 1 + 2, none⟩ = some (.string x.d.nm) := hat.c1
      have y3 : wr.cell? ⟨b, o + i * 5 + 1 + 3, none⟩ = some (.slice x.d.a x.d.ks.len x.d.cap) := hat.c2
      have HS := sfault x.d.k x.d.ix x.d.nm x.d.a x.d.cap x.d.ks wr (hat.sl.mono (fun c hc => by have := hB.out.size; omega))
      unfold nodeV at HS
      have HSF := hide HS
      have hz := hB.out.size
      clear hat hg HS
      cases hq : fltB x.d.k x.d.ix x.d.nm x.d.ks with
      | true =>
        rw [hq] at HSF
        have HE : Hid (allB L = false) := by unfold Hid; rw [hA.out.1, allB_app]; simp [allB, hq]
        go_wp2_with fail
        refine HSF.out.mono ?_
        rintro e w1 ⟨rfl, b1⟩
        have HB1 := hide (hB.out.trans (b1.mono hz))
        clear b1
        go_wp2_with fail
        go_ret
        exact ⟨by rw [HE.out]; rfl, HB1.out⟩
      | false =>
        rw [hq] at HSF
        have HA2 : Hid (L = (A ++ [x]) ++ B ∧ (A ++ [x]).length = i + 1 ∧ allB (A ++ [x]) = true) := ⟨by rw [hA.out.1]; simp, by simp [hA.out.2.1], by rw [allB_app, hA.out.2.2]; simp [allB, hq]⟩
        go_wp2_with fail
        refine HSF.out.mono ?_
        rintro e w1 ⟨rfl, b1⟩
        have HB1 := hide (hB.out.trans (b1.mono hz))
        clear b1
        go_wp2_with fail
        go_roundw
        case rel => exact ⟨i + 1, A ++ [x], B, by go_num, by omega, HA2, HB1⟩
        case measure => simp [intOf]; omega

end Go.Proofs.Ytjlefdalobgdfaa
