import Derived.Test.YtppfohpgcofkbaaJL
import Derived.Test.YtppfohpgcofkbaaJE
import Derived.Test.YtppfohpgcofkbaaDp
namespace Go.Proofs.Ytppfohpgcofkbaa
open Go.RowKit Go.Joins

/-- A number as text. -/
def num (m : Bool) (L : List Int) : List UInt8 := B.textOf m L.length (fun i => (L.getD i 0).toNat)

/-- Texts with a text between. -/
def sepB (s : List UInt8) : List (List UInt8) → List UInt8
  | [] => []
  | x :: r => x ++ r.flatMap (fun t => s ++ t)

def arrow : List UInt8 := [32, 45, 62, 32]

open Classical in
/-- A term as text, by the texts of its kids and alternatives. -/
noncomputable def one (h : Hd) (K A : List (List UInt8)) : List UInt8 :=
  if h.k = 1 then bs h.nm
  else if h.k = 2 then num h.mn h.lm
  else if h.k = 3 then escT 39 h.nm
  else if h.k = 10 then escT 34 h.nm
  else if h.k = 4 ∨ h.k = 9 then (if K = [] then bs h.nm else [40] ++ bs h.nm ++ K.flatMap (fun t => [32] ++ t) ++ [41])
  else if h.k = 5 then [40] ++ sepB [32] K ++ [41]
  else if h.k = 6 then [40, 92] ++ sepB [32] (h.ns.map bs) ++ arrow ++ K.headD [] ++ [41]
  else if h.k = 7 then [40, 108, 101, 116, 32] ++ sepB [59, 32] (List.zipWith (fun n t => bs n ++ [32, 61, 32] ++ t) h.ns K) ++ [32, 105, 110, 32] ++ K.getD h.ns.length [] ++ [41]
  else [40, 99, 97, 115, 101, 32] ++ K.headD [] ++ [32, 111, 102, 32] ++ (if h.nm = ⟨#[]⟩ then [] else bs h.nm ++ [32]) ++ [123, 32] ++ sepB [59, 32] (A ++ (K.drop 1).map (fun t => [95, 32, 45, 62, 32] ++ t)) ++ [32, 125, 41]

/-- What stands ahead of an alternative's body, and the text of each term. -/
noncomputable def Tm.tx : Tm → List (List UInt8 × List UInt8)
  | .nil => []
  | .nd h ks al r => (bs h.con ++ h.cs.flatMap (fun x => [32] ++ bs x) ++ arrow, one h (ks.tx.map (·.2)) (al.tx.map (fun p => p.1 ++ p.2))) :: r.tx

noncomputable def KT (F : Fo) : List (List UInt8) := (rdK F).tx.map (·.2)
noncomputable def AT (F : Fo) : List (List UInt8) := (rdA F).tx.map (fun p => p.1 ++ p.2)
/-- The text of one term. -/
noncomputable def fx (F : Fo) : List UInt8 := (KT F).headD []

theorem KT_nil : KT .nil = [] := by unfold KT; rw [rdK_nil]; rfl
theorem AT_nil : AT .nil = [] := by unfold AT; rw [rdA_nil]; rfl

theorem fx_nd (k : Int) (nm : ByteArray) (mn : Bool) (la na ka aa : Option Addr) (ln lc nn nc kn kc an ac : Nat) (lk nk kk ak : Fo) :
    fx (.v (.int .i64 k) (.v (.string nm) (.v (.bool mn) (.s la ln lc lk (.s na nn nc nk (.s ka kn kc kk (.s aa an ac ak .nil))))))) = one ⟨⟨#[]⟩, [], k, nm, mn, rdU lk, rdS nk⟩ (KT kk) (AT ak) := by
  unfold fx KT
  rw [rdK_nd, rdK_nil]
  rfl

theorem KT_app {x : Fo} (hx : Fit E x (E 3)) (q : Fo) : KT (x.app q) = fx x :: KT q := by
  obtain ⟨k, nm, mn, la, ln, lc, lk, na, nn, nc, nk, ka, kn, kc, kk, aa, an, ac, ak, rfl, -⟩ := core_open hx
  rw [fx_nd]
  simp only [Fo.app]
  unfold KT
  rw [rdK_nd]
  rfl

theorem AT_app {x : Fo} (hx : Fit E x (E 2)) (q : Fo) : ∃ (con : ByteArray) (ca : Option Addr) (cn cc : Nat) (ck y : Fo), x = .v (.string con) (.s ca cn cc ck y) ∧ con.size ≤ maxLen ∧ Fit E ck (rep (E 1) cn) ∧ Fit E y (E 3) ∧ AT (x.app q) = (bs con ++ (rdS ck).flatMap (fun x => [32] ++ bs x) ++ arrow ++ fx y) :: AT q := by
  obtain ⟨con, ca, cn, cc, ck, y, rfl, hcon, h1, hy⟩ := alt_open hx
  refine ⟨con, ca, cn, cc, ck, y, rfl, hcon, h1, hy, ?_⟩
  obtain ⟨k, nm, mn, la, ln, lc, lk, na, nn, nc, nk, ka, kn, kc, kk, aa, an, ac, ak, rfl, -⟩ := core_open hy
  rw [fx_nd]
  simp only [Fo.app]
  unfold AT
  rw [rdA_nd]
  rfl

/-- How long texts are. -/
def lens (L : List (List UInt8)) : Nat := (L.map (fun t => t.length + 10)).sum

theorem lens_nil : lens [] = 0 := rfl
theorem lens_cons (x : List UInt8) (L : List (List UInt8)) : lens (x :: L) = x.length + 10 + lens L := by simp [lens]
theorem lens_app (L K : List (List UInt8)) : lens (L ++ K) = lens L + lens K := by simp [lens]

theorem fm_len (s : List UInt8) (hs : s.length ≤ 10) : ∀ L : List (List UInt8), (L.flatMap (fun t => s ++ t)).length ≤ lens L
  | [] => by simp
  | x :: r => by
    have := fm_len s hs r
    rw [lens_cons, List.flatMap_cons, List.length_append, List.length_append]
    omega

theorem sepB_len (s : List UInt8) (hs : s.length ≤ 10) (L : List (List UInt8)) : (sepB s L).length ≤ lens L := by
  cases L with
  | nil => simp [sepB]
  | cons x r =>
    have := fm_len s hs r
    rw [lens_cons]
    simp only [sepB, List.length_append]
    omega

theorem zip_len : ∀ (L : List ByteArray) (K : List (List UInt8)), lens (List.zipWith (fun n t => bs n ++ [32, 61, 32] ++ t) L K) + (K.getD L.length []).length ≤ lens (L.map bs) + lens K
  | [], K => by
    cases K with
    | nil => simp [lens_nil]
    | cons x r => rw [lens_cons]; simp [lens_nil]; omega
  | x :: L, [] => by simp [lens_nil]
  | x :: L, t :: K => by
    have := zip_len L K
    rw [List.zipWith_cons_cons, List.map_cons, lens_cons, lens_cons, lens_cons]
    simp only [List.length_append, List.length_cons, List.length_nil, List.getD_cons_succ]
    omega

theorem sepA_len : ∀ (A D : List (List UInt8)), ((A ++ D.map (fun t => [95, 32, 45, 62, 32] ++ t)).flatMap (fun t => [59, 32] ++ t)).length ≤ lens A + lens D
  | [], [] => by simp
  | [], x :: D => by
    have := sepA_len [] D
    simp only [List.nil_append] at this ⊢
    rw [lens_nil, lens_cons, List.map_cons, List.flatMap_cons, List.length_append, List.length_append, List.length_append]
    simp only [List.length_cons, List.length_nil, lens_nil] at this ⊢
    omega
  | x :: A, D => by
    have := sepA_len A D
    rw [lens_cons, List.cons_append, List.flatMap_cons, List.length_append, List.length_append]
    simp only [List.length_cons, List.length_nil]
    omega

theorem sepA_le (s : List UInt8) (L : List (List UInt8)) : (sepB s L).length ≤ (L.flatMap (fun t => s ++ t)).length := by
  cases L with
  | nil => simp [sepB]
  | cons x r =>
    simp only [sepB, List.flatMap_cons, List.length_append]
    omega

theorem drop_lens (K : List (List UInt8)) : lens (K.drop 1) + (K.headD []).length ≤ lens K := by
  cases K with
  | nil => simp [lens_nil]
  | cons x r =>
    rw [lens_cons]
    simp only [List.drop_succ_cons, List.drop_zero, List.headD_cons]
    omega

theorem headD_lens (K : List (List UInt8)) : (K.headD []).length ≤ lens K := by
  cases K with
  | nil => simp
  | cons x r => rw [lens_cons]; simp only [List.headD_cons]; omega

theorem escT_len (m : UInt8) (t : ByteArray) : (escT m t).length ≤ 2 * t.size + 2 := by
  have h : ∀ L : List UInt8, (L.flatMap (escB m)).length ≤ 2 * L.length := by
    intro L
    induction L with
    | nil => simp
    | cons x L ih =>
      have : (escB m x).length ≤ 2 := by
        unfold escB
        split
        · simp
        · split
          · simp
          · simp
      rw [List.flatMap_cons, List.length_append, List.length_cons]
      omega
  have := h t.data.toList
  have e : t.data.toList.length = t.size := Array.length_toList
  unfold escT
  rw [List.length_append, List.length_cons, List.length_singleton]
  omega

theorem num_len (m : Bool) (L : List Int) : (num m L).length ≤ 400 := by
  unfold num B.textOf
  have h := B.dec_len 386 (B.val (B.ext L.length (fun i => (L.getD i 0).toNat)) L.length)
  split
  · simp
  · split
    · simp
    · split
      · rw [List.length_cons]
        omega
      · omega

theorem one_len (h : Hd) (K A : List (List UInt8)) : (one h K A).length ≤ 430 + 2 * h.nm.size + lens (h.ns.map bs) + lens K + lens A := by
  have h1 := bs_len h.nm
  have h2 := num_len h.mn h.lm
  have h3 := escT_len 39 h.nm
  have h4 := escT_len 34 h.nm
  have h5 := fm_len [32] (by simp) K
  have h6 := sepB_len [32] (by simp) K
  have h7 := sepB_len [32] (by simp) (h.ns.map bs)
  have h8 := headD_lens K
  have h9 := sepB_len [59, 32] (by simp) (List.zipWith (fun n t => bs n ++ [32, 61, 32] ++ t) h.ns K)
  have h10 := zip_len h.ns K
  have h12 := sepA_le [59, 32] (A ++ (K.drop 1).map (fun t => [95, 32, 45, 62, 32] ++ t))
  have h13 := sepA_len A (K.drop 1)
  have h14 := drop_lens K
  unfold one
  repeat' split
  all_goals try simp only [List.length_append, List.length_cons, List.length_nil, arrow]
  all_goals omega

theorem rdS_lens : ∀ (n : Nat) (F : Fo), Fit E F (rep (E 1) n) → lens ((rdS F).map bs) ≤ 10 * (F.wt + F.size) ∧ ((rdS F).flatMap (fun x => [32] ++ bs x)).length ≤ 10 * (F.wt + F.size)
  | 0, F, h => by rw [fit_nil h]; simp [rdS, lens_nil]
  | n + 1, F, h => by
    replace h : Fit E F (.t :: rep (E 1) n) := h
    obtain ⟨x, q, rfl, hx, hq⟩ := fit_t h
    obtain ⟨h1, h2⟩ := rdS_lens n q hq
    have := bs_len x
    simp only [rdS, List.map_cons, lens_cons, List.flatMap_cons, List.length_append, List.length_cons, List.length_nil, Fo.wt, Fo.size, textSize]
    omega

theorem tx_bound : ∀ m : Nat, (∀ (F : Fo) (n : Nat), F.size ≤ m → Fit E F (rep (E 3) n) → lens (KT F) ≤ 100 * (F.wt + F.size)) ∧ (∀ (F : Fo) (n : Nat), F.size ≤ m → Fit E F (rep (E 2) n) → lens (AT F) ≤ 100 * (F.wt + F.size)) := by
  intro m
  induction m with
  | zero =>
    refine ⟨fun F n hm hf => ?_, fun F n hm hf => ?_⟩
    · cases F with
      | nil => rw [KT_nil, lens_nil]; exact Nat.zero_le _
      | v _ _ => simp [Fo.size] at hm
      | s _ _ _ _ _ => simp [Fo.size] at hm
    · cases F with
      | nil => rw [AT_nil, lens_nil]; exact Nat.zero_le _
      | v _ _ => simp [Fo.size] at hm
      | s _ _ _ _ _ => simp [Fo.size] at hm
  | succ m ih =>
    obtain ⟨ihK, ihA⟩ := ih
    have core : ∀ y : Fo, y.size ≤ m + 1 → Fit E y (E 3) → (fx y).length + 250 ≤ 100 * (y.wt + y.size) := fun y hy hf => by
      obtain ⟨k, nm, mn, la, ln, lc, lk, na, nn, nc, nk, ka, kn, kc, kk, aa, an, ac, ak, rfl, -, -, h3, h4, h5, h6⟩ := core_open hf
      simp only [Fo.size] at hy
      rw [fx_nd]
      have h1 := one_len ⟨⟨#[]⟩, [], k, nm, mn, rdU lk, rdS nk⟩ (KT kk) (AT ak)
      have h2 := ihK kk kn (by omega) h5
      have h7 := ihA ak an (by omega) h6
      have h8 := (rdS_lens nn nk h4).1
      simp only [Fo.wt, Fo.size, textSize] at h1 ⊢
      omega
    refine ⟨fun F n hm hf => ?_, fun F n hm hf => ?_⟩
    · cases n with
      | zero => rw [fit_nil hf, KT_nil, lens_nil]; exact Nat.zero_le _
      | succ n =>
        obtain ⟨x, q, rfl, hx, hq, hl⟩ := Fit.split (fs := E 3) (gs := rep (E 3) n) hf
        rw [KT_app hx, lens_cons]
        rw [Fo.app_size] at hm ⊢
        rw [Fo.app_wt]
        have e7 : x.len = 7 := hl
        have := x.len_le
        have h1 := core x (by omega) hx
        have h2 := ihK q n (by omega) hq
        omega
    · cases n with
      | zero => rw [fit_nil hf, AT_nil, lens_nil]; exact Nat.zero_le _
      | succ n =>
        obtain ⟨x, q, rfl, hx, hq, hl⟩ := Fit.split (fs := E 2) (gs := rep (E 2) n) hf
        obtain ⟨con, ca, cn, cc, ck, y, rfl, hcon, hck, hy, e⟩ := AT_app hx q
        rw [e, lens_cons]
        rw [Fo.app_size] at hm ⊢
        rw [Fo.app_wt]
        simp only [Fo.size] at hm
        have h1 := core y (by omega) hy
        have h2 := ihA q n (by omega) hq
        have h3 := (rdS_lens cn ck hck).2
        have h4 := bs_len con
        simp only [List.length_append, arrow, List.length_cons, List.length_nil, Fo.wt, Fo.size, textSize]
        omega

theorem fx_bound (F : Fo) (hf : Fit E F (E 3)) : (fx F).length ≤ 100 * (F.wt + F.size) := by
  have h := (tx_bound F.size).1 F 1 (Nat.le_refl _) hf
  have := headD_lens (KT F)
  unfold fx
  omega

end Go.Proofs.Ytppfohpgcofkbaa
