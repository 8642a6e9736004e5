import Derived.Test.YtjlefdalobgdfaaSz
namespace Go.Proofs.Ytjlefdalobgdfaa
open Go.RowKit Go.Joins

/-- The digits of a number ahead of a text. -/
def dg (k : Nat) (o : ByteArray) : ByteArray := if _h : k = 0 then o else dg (k / 10) (⟨#[UInt8.ofNat (48 + k % 10)]⟩ ++ o)
termination_by k
decreasing_by omega
def mt (k : Nat) : ByteArray := ⟨#[109]⟩ ++ dg k ⟨#[]⟩

/-- A row marked, from k on. -/
def Fo.mk : Fo → Nat → Fo
  | .nil, _ => .nil
  | .cons _ _ _ a cap ks r, k => .cons (k : Int) ((k + 1 : Nat) : Int) (mt (k + 2)) a cap (ks.mk (k + 3)) (r.mk (k + 3 + 3 * ks.size))

theorem Fo.mk_len : ∀ (F : Fo) (k : Nat), (F.mk k).len = F.len
  | .nil, _ => rfl
  | .cons _ _ _ _ _ _ r, k => by simp only [Fo.mk, Fo.len, r.mk_len]

theorem Fo.mk_size : ∀ (F : Fo) (k : Nat), (F.mk k).size = F.size
  | .nil, _ => rfl
  | .cons _ _ _ _ _ ks r, k => by simp only [Fo.mk, Fo.size, ks.mk_size, r.mk_size]

theorem Fo.mk_app : ∀ (F G : Fo) (k : Nat), (F.app G).mk k = (F.mk k).app (G.mk (k + 3 * F.size))
  | .nil, _, _ => rfl
  | .cons _ _ _ _ _ ks r, G, k => by
    simp only [Fo.app, Fo.mk, Fo.size, r.mk_app]
    congr 3
    omega

/-- The block of a row that is not empty. -/
def blk : Option Addr → Nat → List Nat
  | some a, _ + 1 => [a.block]
  | _, _ => []

theorem blk_pos {a : Addr} {n : Nat} (h : 0 < n) : blk (some a) n = [a.block] := by
  cases n with
  | zero => omega
  | succ n => rfl

/-- The blocks of the rows within a row. -/
def Fo.inn : Fo → List Nat
  | .nil => []
  | .cons _ _ _ a _ ks r => (blk a ks.len ++ ks.inn) ++ r.inn

theorem Fo.inn_app : ∀ F G : Fo, (F.app G).inn = F.inn ++ G.inn
  | .nil, _ => rfl
  | .cons _ _ _ _ _ _ r, G => by simp only [Fo.app, Fo.inn, r.inn_app, List.append_assoc]

theorem Fo.mk_inn : ∀ (F : Fo) (k : Nat), (F.mk k).inn = F.inn
  | .nil, _ => rfl
  | .cons _ _ _ _ _ ks r, k => by simp only [Fo.mk, Fo.inn, ks.mk_inn, r.mk_inn, ks.mk_len]

/-- A row's own blocks are those of its addresses. -/
theorem Fo.Row.own {W : World} {S : Nat → Prop} : ∀ {F : Fo} {b o : Nat}, F.Row W S b o → F.Row W (fun c => c ∈ F.inn) b o
  | .nil, _, _, _ => trivial
  | .cons k ix nm a cap ks r, b, o, ⟨hk, hix, hn, c1, ci, c2, c3, h4, h5, h6, h7⟩ => by
    refine ⟨hk, hix, hn, c1, ci, c2, c3, h4, h5, fun hl => ?_, ?_⟩
    · obtain ⟨b', o', rfl, -, x⟩ := h6 hl
      refine ⟨b', o', rfl, ?_, (x.own).keep (fun c hc => ?_) (fun _ _ _ h => h) (fun _ _ _ _ h => h)⟩
      · simp [Fo.inn, blk_pos hl]
      · simp only [Fo.inn, List.mem_append]; exact .inl (.inr hc)
    · exact (h7.own).keep (fun c hc => by simp only [Fo.inn, List.mem_append]; exact .inr hc) (fun _ _ _ h => h) (fun _ _ _ _ h => h)

theorem Fo.Sl.own {W : World} {S : Nat → Prop} {F : Fo} {a : Option Addr} {cap : Nat} (h : F.Sl W S a cap) : F.Sl W (fun c => c ∈ blk a F.len ++ F.inn) a cap :=
  ⟨h.1, h.2.1, fun hl => by
    obtain ⟨b, o, rfl, -, x⟩ := h.2.2 hl
    exact ⟨b, o, rfl, by simp [blk_pos hl], (x.own).keep (fun c hc => by simp [hc]) (fun _ _ _ h => h) (fun _ _ _ _ h => h)⟩⟩

/-- All blocks of a row lie where S says. -/
theorem Fo.Row.inn_of {W : World} {S : Nat → Prop} : ∀ {F : Fo} {b o : Nat}, F.Row W S b o → ∀ c, c ∈ F.inn → S c
  | .nil, _, _, _, c, hc => by simp [Fo.inn] at hc
  | .cons k ix nm a cap ks r, b, o, ⟨hk, hix, hn, c1, ci, c2, c3, h4, h5, h6, h7⟩, c, hc => by
    simp only [Fo.inn, List.mem_append] at hc
    rcases hc with (hc | hc) | hc
    · by_cases hl : 0 < ks.len
      · obtain ⟨b', o', rfl, s, -⟩ := h6 hl
        rw [blk_pos hl] at hc
        simp at hc
        rw [hc]
        exact s
      · have : ks.len = 0 := by omega
        rw [this] at hc
        cases a <;> simp [blk] at hc
    · by_cases hl : 0 < ks.len
      · obtain ⟨b', o', rfl, -, x⟩ := h6 hl
        exact x.inn_of c hc
      · cases ks with
        | nil => simp [Fo.inn] at hc
        | cons _ _ _ _ _ _ _ => simp [Fo.len] at hl
    · exact h7.inn_of c hc

theorem Fo.Sl.all_of {W : World} {S : Nat → Prop} {F : Fo} {a : Option Addr} {cap : Nat} (h : F.Sl W S a cap) : ∀ c, c ∈ blk a F.len ++ F.inn → S c := fun c hc => by
  by_cases hl : 0 < F.len
  · obtain ⟨b, o, rfl, s, x⟩ := h.2.2 hl
    rw [blk_pos hl] at hc
    simp at hc
    rcases hc with rfl | hc
    · exact s
    · exact x.inn_of c hc
  · cases F with
    | nil => cases a <;> simp [Fo.inn, Fo.len, blk] at hc
    | cons _ _ _ _ _ _ _ => simp [Fo.len] at hl

/-- Blocks that may be written. -/
def Live (W : World) (L : List Nat) : Prop := ∀ c, c ∈ L → ∀ j, W.frozen? ⟨c, j, none⟩ = false

theorem Live.kept {A B : World} {L : List Nat} {S : Nat → Prop} (h : Live A L) (k : Kept S A B) (hS : ∀ c, c ∈ L → S c ∧ c < A.heap.size) : Live B L := fun c hc j =>
  (k.frozen (p := ⟨c, j, none⟩) (hS c hc).2 (hS c hc).1).trans (h c hc j)

theorem Live.below {A B : World} {L : List Nat} {n : Nat} (h : Live A L) (k : Below n A B) (hS : ∀ c, c ∈ L → c < n) : Live B L := fun c hc j =>
  (k.frozen (p := ⟨c, j, none⟩) (hS c hc)).trans (h c hc j)

theorem Live.sub {A : World} {L M : List Nat} (h : Live A L) (hs : ∀ c, c ∈ M → c ∈ L) : Live A M := fun c hc j => h c (hs c hc) j

theorem Live.set {A : World} {L : List Nat} (h : Live A L) (p : Addr) (v : Value) : Live (A.setCell p v) L := fun c hc j => by
  rw [World.frozen?_setCell]; exact h c hc j

end Go.Proofs.Ytjlefdalobgdfaa
