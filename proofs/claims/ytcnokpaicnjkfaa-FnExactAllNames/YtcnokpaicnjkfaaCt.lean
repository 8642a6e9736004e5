import Derived.Test.YtcnokpaicnjkfaaUr
namespace Go.Proofs.Ytcnokpaicnjkfaa
open Go.RowKit Go.Joins

/-- What a core term has beside the terms below it; con and cs: of an alternative's body, what is ahead of it. -/
structure Hd where
  con : ByteArray
  cs : List ByteArray
  k : Int
  nm : ByteArray
  mn : Bool
  lm : List Int
  ns : List ByteArray

/-- Terms in a row: each with its kids and its alternatives' bodies. -/
inductive Tm where
  | nil : Tm
  | nd (h : Hd) (ks al r : Tm) : Tm

def rdU : Fo → List Int
  | .v (.int _ x) r => x :: rdU r
  | _ => []

def rdS : Fo → List ByteArray
  | .v (.string x) r => x :: rdS r
  | _ => []

mutual
/-- The terms of a row of kids. -/
def rdK : Fo → Tm
  | .v (.int _ k) (.v (.string nm) (.v (.bool mn) (.s _ _ _ lk (.s _ _ _ nk (.s _ _ _ kk (.s _ _ _ ak r)))))) => .nd ⟨⟨#[]⟩, [], k, nm, mn, rdU lk, rdS nk⟩ (rdK kk) (rdA ak) (rdK r)
  | _ => .nil
/-- The terms of a row of alternatives. -/
def rdA : Fo → Tm
  | .v (.string con) (.s _ _ _ ck (.v (.int _ k) (.v (.string nm) (.v (.bool mn) (.s _ _ _ lk (.s _ _ _ nk (.s _ _ _ kk (.s _ _ _ ak r)))))))) => .nd ⟨con, rdS ck, k, nm, mn, rdU lk, rdS nk⟩ (rdK kk) (rdA ak) (rdA r)
  | _ => .nil
end

theorem rdK_nil : rdK .nil = .nil := by rw [rdK]; intros; contradiction
theorem rdA_nil : rdA .nil = .nil := by rw [rdA]; intros; contradiction
theorem rdK_nd (k : Int) (nm : ByteArray) (mn : Bool) (la na ka aa : Option Addr) (ln lc nn nc kn kc an ac : Nat) (lk nk kk ak r : Fo) :
    rdK (.v (.int .i64 k) (.v (.string nm) (.v (.bool mn) (.s la ln lc lk (.s na nn nc nk (.s ka kn kc kk (.s aa an ac ak r))))))) = .nd ⟨⟨#[]⟩, [], k, nm, mn, rdU lk, rdS nk⟩ (rdK kk) (rdA ak) (rdK r) := by rw [rdK]
theorem rdA_nd (con : ByteArray) (ca : Option Addr) (cn cc : Nat) (ck : Fo) (k : Int) (nm : ByteArray) (mn : Bool) (la na ka aa : Option Addr) (ln lc nn nc kn kc an ac : Nat) (lk nk kk ak r : Fo) :
    rdA (.v (.string con) (.s ca cn cc ck (.v (.int .i64 k) (.v (.string nm) (.v (.bool mn) (.s la ln lc lk (.s na nn nc nk (.s ka kn kc kk (.s aa an ac ak r))))))))) = .nd ⟨con, rdS ck, k, nm, mn, rdU lk, rdS nk⟩ (rdK kk) (rdA ak) (rdA r) := by rw [rdA]

/-- How many in a row. -/
def Tm.len : Tm → Nat
  | .nil => 0
  | .nd _ _ _ r => r.len + 1

/-- Names of alternatives in a row. -/
def Tm.an : Tm → Nat
  | .nil => 0
  | .nd h _ _ r => h.cs.length + r.an

/-- Terms and names, al the model counts them. -/
def Tm.cnt : Tm → Nat
  | .nil => 0
  | .nd h ks al r => 1 + h.ns.length + al.an + ks.cnt + al.cnt + r.cnt

def Tm.dep : Tm → Nat
  | .nil => 0
  | .nd _ ks al r => max (1 + max ks.dep al.dep) r.dep

/-- What the model's count leaves. -/
def Tm.sz : Tm → Nat → Int → Option Int
  | .nil, _, L => some L
  | .nd h ks al r, d, L =>
    if L - 1 - h.ns.length - al.an < 0 ∨ 1000 < d then none else
      (ks.sz (d + 1) (L - 1 - h.ns.length - al.an)).bind fun L2 => (al.sz (d + 1) L2).bind fun L3 => r.sz d L3

theorem Tm.sz_eq : ∀ (t : Tm) (d : Nat) (L : Int), 0 ≤ L → d ≤ 1001 → t.sz d L = if (t.cnt : Int) ≤ L ∧ d + t.dep ≤ 1001 then some (L - t.cnt) else none
  | .nil, d, L, h0, hd => by
    have e1 : Tm.nil.cnt = 0 := rfl
    have e2 : Tm.nil.dep = 0 := rfl
    rw [Tm.sz, if_pos (by omega)]
    congr 1
    omega
  | .nd h ks al r, d, L, h0, hd => by
    have e1 : (Tm.nd h ks al r).cnt = 1 + h.ns.length + al.an + ks.cnt + al.cnt + r.cnt := rfl
    have e2 : (Tm.nd h ks al r).dep = max (1 + max ks.dep al.dep) r.dep := rfl
    rw [Tm.sz]
    by_cases g : L - 1 - h.ns.length - al.an < 0 ∨ 1000 < d
    · rw [if_pos g, if_neg (by omega)]
    · rw [if_neg g, Tm.sz_eq ks (d + 1) _ (by omega) (by omega)]
      by_cases g1 : (ks.cnt : Int) ≤ L - 1 - h.ns.length - al.an ∧ d + 1 + ks.dep ≤ 1001
      · rw [if_pos g1, Option.bind_some, Tm.sz_eq al (d + 1) _ (by omega) (by omega)]
        by_cases g2 : (al.cnt : Int) ≤ L - 1 - h.ns.length - al.an - ks.cnt ∧ d + 1 + al.dep ≤ 1001
        · rw [if_pos g2, Option.bind_some, Tm.sz_eq r d _ (by omega) (by omega)]
          by_cases g3 : (r.cnt : Int) ≤ L - 1 - h.ns.length - al.an - ks.cnt - al.cnt ∧ d + r.dep ≤ 1001
          · rw [if_pos g3, if_pos (by omega)]
            congr 1
            omega
          · rw [if_neg g3, if_neg (by omega)]
        · rw [if_neg g2, Option.bind_none, if_neg (by omega)]
      · rw [if_neg g1, Option.bind_none, if_neg (by omega)]

/-- Texts that are not empty, and different. -/
def okNames (L : List ByteArray) : Prop := (∀ x ∈ L, x ≠ ⟨#[]⟩) ∧ L.Nodup

/-- Constructors of a row of alternatives. -/
def Tm.cons : Tm → List ByteArray
  | .nil => []
  | .nd h _ _ r => h.con :: r.cons

/-- Each alternative's names are good. -/
def Tm.anm : Tm → Prop
  | .nil => True
  | .nd h _ _ r => okNames h.cs ∧ r.anm

end Go.Proofs.Ytcnokpaicnjkfaa
