import Derived.Test.YtfgmgbkiebeeoaaZa
import Derived.Test.YtfgmgbkiebeeoaaJC
import Derived.Laws.StructEq
namespace Go.Proofs.Ytfgmgbkiebeeoaa
open Go.RowKit Go.Joins

/-- A term in memory: where it lies, and its cells. -/
structure Nd where
  b : Nat
  o : Nat
  x : Fo

def Nd.ptr (d : Nd) : Value := .pointer (some ⟨d.b, d.o, none⟩)

/-- The terms of a row of kids that lies at o in block b. -/
def itK (b : Nat) : Nat → Fo → List Nd
  | o, .v k (.v nm (.v mn (.s la ln lc lk (.s na nn nc nk (.s ka kn kc kk (.s aa an ac ak r)))))) => ⟨b, o, .v k (.v nm (.v mn (.s la ln lc lk (.s na nn nc nk (.s ka kn kc kk (.s aa an ac ak .nil))))))⟩ :: itK b (o + 7) r
  | _, _ => []

/-- The bodies of a row of alternatives. -/
def itA (b : Nat) : Nat → Fo → List Nd
  | o, .v _ (.s _ _ _ _ (.v k (.v nm (.v mn (.s la ln lc lk (.s na nn nc nk (.s ka kn kc kk (.s aa an ac ak r)))))))) => ⟨b, o + 2, .v k (.v nm (.v mn (.s la ln lc lk (.s na nn nc nk (.s ka kn kc kk (.s aa an ac ak .nil))))))⟩ :: itA b (o + 9) r
  | _, _ => []

def atK (a : Option Addr) (F : Fo) : List Nd := match a with
  | some p => itK p.block p.off F
  | none => []
def atA (a : Option Addr) (F : Fo) : List Nd := match a with
  | some p => itA p.block p.off F
  | none => []

/-- The terms right below one. -/
def Nd.kids (d : Nd) : List Nd := match d.x with
  | .v _ (.v _ (.v _ (.s _ _ _ _ (.s _ _ _ _ (.s ka _ _ kk (.s aa _ _ ak _)))))) => atK ka kk ++ atA aa ak
  | _ => []

structure Nd.Ok (W : World) (S : Nat → Prop) (d : Nd) : Prop where
  fit : Fit E d.x (E 3)
  cel : Cel W d.x.vals d.b d.o
  subs : d.x.Subs W S
  at_ : S d.b

theorem Nd.Ok.kept {A B : World} {S T : Nat → Prop} {d : Nd} (h : d.Ok A S) (k : Kept T A B) (hS : ∀ b, S b → T b ∧ b < A.heap.size) : d.Ok B S :=
  ⟨h.fit, h.cel.kept k (hS _ h.at_).2 (hS _ h.at_).1, h.subs.kept k hS, h.at_⟩

theorem itK_ok {W : World} {S : Nat → Prop} {b : Nat} (hb : S b) : ∀ (n : Nat) (o : Nat) (F : Fo), Fit E F (rep (E 3) n) → Cel W F.vals b o → F.Subs W S → (itK b o F).length = n ∧ (∀ i d, (itK b o F)[i]? = some d → d.b = b ∧ d.o = o + i * 7) ∧ ∀ d ∈ itK b o F, d.Ok W S
  | 0, o, F, h, _, _ => by
    rw [fit_nil h]
    exact ⟨rfl, fun i d hd => by simp [itK] at hd, fun d hd => by simp [itK] at hd⟩
  | n + 1, o, F, h, hc, hs => by
    obtain ⟨x, q, rfl, hx, hq, hl⟩ := Fit.split (fs := E 3) (gs := rep (E 3) n) h
    rw [Fo.app_vals] at hc
    have hc1 := hc.left
    have hc2 := hc.right
    rw [Fo.vals_length, hl] at hc2
    have hs1 := hs.left
    have hs2 := hs.right
    obtain ⟨g1, g2, g3⟩ := itK_ok hb n (o + 7) q hq hc2 hs2
    have hx' := hx
    obtain ⟨k, nm, mn, la, ln, lc, lk, na, nn, nc, nk, ka, kn, kc, kk, aa, an, ac, ak, rfl, -⟩ := core_open hx
    simp only [Fo.app]
    refine ⟨by simp only [itK, List.length_cons, g1], fun i d hd => ?_, fun d hd => ?_⟩
    · simp only [itK] at hd
      cases i with
      | zero =>
        simp only [List.getElem?_cons_zero, Option.some.injEq] at hd
        subst hd
        exact ⟨rfl, by simp⟩
      | succ i =>
        simp only [List.getElem?_cons_succ] at hd
        obtain ⟨e1, e2⟩ := g2 i d hd
        exact ⟨e1, by rw [e2]; omega⟩
    · simp only [itK, List.mem_cons] at hd
      rcases hd with rfl | hd
      · exact ⟨hx', hc1, hs1, hb⟩
      · exact g3 d hd

theorem itA_ok {W : World} {S : Nat → Prop} {b : Nat} (hb : S b) : ∀ (n : Nat) (o : Nat) (F : Fo), Fit E F (rep (E 2) n) → Cel W F.vals b o → F.Subs W S → (itA b o F).length = n ∧ (∀ i d, (itA b o F)[i]? = some d → d.b = b ∧ d.o = o + i * 9 + 2) ∧ ∀ d ∈ itA b o F, d.Ok W S
  | 0, o, F, h, _, _ => by
    rw [fit_nil h]
    exact ⟨rfl, fun i d hd => by simp [itA] at hd, fun d hd => by simp [itA] at hd⟩
  | n + 1, o, F, h, hc, hs => by
    obtain ⟨x, q, rfl, hx, hq, hl⟩ := Fit.split (fs := E 2) (gs := rep (E 2) n) h
    rw [Fo.app_vals] at hc
    have hc1 := hc.left
    have hc2 := hc.right
    rw [Fo.vals_length, hl] at hc2
    have hs1 := hs.left
    have hs2 := hs.right
    obtain ⟨g1, g2, g3⟩ := itA_ok hb n (o + 9) q hq hc2 hs2
    obtain ⟨con, ca, cn, cc, ck, y, rfl, -, h1, hy⟩ := alt_open hx
    have hy' := hy
    have hcy : Cel W y.vals b (o + 2) := fun i v hv => by
      have := hc1 (i + 2) v (by simpa [Fo.vals] using hv)
      have e : o + (i + 2) = o + 2 + i := by omega
      rwa [e] at this
    have hsy := hs1.2
    obtain ⟨k, nm, mn, la, ln, lc, lk, na, nn, nc, nk, ka, kn, kc, kk, aa, an, ac, ak, rfl, -⟩ := core_open hy
    simp only [Fo.app]
    refine ⟨by simp only [itA, List.length_cons, g1], fun i d hd => ?_, fun d hd => ?_⟩
    · simp only [itA] at hd
      cases i with
      | zero =>
        simp only [List.getElem?_cons_zero, Option.some.injEq] at hd
        subst hd
        exact ⟨rfl, by simp⟩
      | succ i =>
        simp only [List.getElem?_cons_succ] at hd
        obtain ⟨e1, e2⟩ := g2 i d hd
        exact ⟨e1, by rw [e2]; omega⟩
    · simp only [itA, List.mem_cons] at hd
      rcases hd with rfl | hd
      · exact ⟨hy', hcy, hsy, hb⟩
      · exact g3 d hd

theorem atK_ok {W : World} {S : Nat → Prop} {a : Option Addr} {n c : Nat} {F : Fo} (hf : Fit E F (rep (E 3) n)) (h : Fo.Sub W S a n c F) : (atK a F).length = n ∧ (∀ i d, (atK a F)[i]? = some d → ∃ b o, a = some ⟨b, o, none⟩ ∧ d.b = b ∧ d.o = o + i * 7) ∧ ∀ d ∈ atK a F, d.Ok W S := by
  by_cases hl : 0 < F.len
  · obtain ⟨b, o, rfl, hb, hc, hs⟩ := h.2.2 hl
    obtain ⟨g1, g2, g3⟩ := itK_ok hb n o F hf hc hs
    exact ⟨g1, fun i d hd => ⟨b, o, rfl, g2 i d hd⟩, g3⟩
  · have e := Fo.len_zero hl
    subst e
    have e2 : n = 0 := by
      have := Fit.len hf
      rw [rep_len] at this
      have e3 : (E 3).length = 7 := rfl
      rw [e3] at this
      simp [Fo.len] at this
      omega
    subst e2
    cases a with
    | none => exact ⟨rfl, fun i d hd => by simp [atK] at hd, fun d hd => by simp [atK] at hd⟩
    | some p => exact ⟨rfl, fun i d hd => by simp [atK, itK] at hd, fun d hd => by simp [atK, itK] at hd⟩

theorem atA_ok {W : World} {S : Nat → Prop} {a : Option Addr} {n c : Nat} {F : Fo} (hf : Fit E F (rep (E 2) n)) (h : Fo.Sub W S a n c F) : (atA a F).length = n ∧ (∀ i d, (atA a F)[i]? = some d → ∃ b o, a = some ⟨b, o, none⟩ ∧ d.b = b ∧ d.o = o + i * 9 + 2) ∧ ∀ d ∈ atA a F, d.Ok W S := by
  by_cases hl : 0 < F.len
  · obtain ⟨b, o, rfl, hb, hc, hs⟩ := h.2.2 hl
    obtain ⟨g1, g2, g3⟩ := itA_ok hb n o F hf hc hs
    exact ⟨g1, fun i d hd => ⟨b, o, rfl, g2 i d hd⟩, g3⟩
  · have e := Fo.len_zero hl
    subst e
    have e2 : n = 0 := by
      have := Fit.len hf
      rw [rep_len] at this
      have e3 : (E 2).length = 9 := rfl
      rw [e3] at this
      simp [Fo.len] at this
      omega
    subst e2
    cases a with
    | none => exact ⟨rfl, fun i d hd => by simp [atA] at hd, fun d hd => by simp [atA] at hd⟩
    | some p => exact ⟨rfl, fun i d hd => by simp [atA, itA] at hd, fun d hd => by simp [atA, itA] at hd⟩

theorem Nd.kids_ok {W : World} {S : Nat → Prop} {d : Nd} (h : d.Ok W S) : ∀ k ∈ d.kids, k.Ok W S := by
  obtain ⟨hf, -, hs, -⟩ := h
  obtain ⟨b, o, x⟩ := d
  obtain ⟨k, nm, mn, la, ln, lc, lk, na, nn, nc, nk, ka, kn, kc, kk, aa, an, ac, ak, rfl, -, -, -, -, h5, h6⟩ := core_open hf
  obtain ⟨-, -, hs5, hs6, -⟩ := hs
  intro y hy
  rcases List.mem_append.1 hy with hy | hy
  · exact (atK_ok h5 hs5).2.2 y hy
  · exact (atA_ok h6 hs6).2.2 y hy


/-- Where a term lies. -/
def Nd.pos (d : Nd) : Nat × Nat := (d.b, d.o)

/-- A term's kids. -/
def kA : Fo → Option Addr
  | .v _ (.v _ (.v _ (.s _ _ _ _ (.s _ _ _ _ (.s a _ _ _ _))))) => a
  | _ => none
def kN : Fo → Nat
  | .v _ (.v _ (.v _ (.s _ _ _ _ (.s _ _ _ _ (.s _ n _ _ _))))) => n
  | _ => 0
def kF : Fo → Fo
  | .v _ (.v _ (.v _ (.s _ _ _ _ (.s _ _ _ _ (.s _ _ _ k _))))) => k
  | _ => .nil
/-- And its alternatives. -/
def aA : Fo → Option Addr
  | .v _ (.v _ (.v _ (.s _ _ _ _ (.s _ _ _ _ (.s _ _ _ _ (.s a _ _ _ _)))))) => a
  | _ => none
def aN : Fo → Nat
  | .v _ (.v _ (.v _ (.s _ _ _ _ (.s _ _ _ _ (.s _ _ _ _ (.s _ n _ _ _)))))) => n
  | _ => 0
def aF : Fo → Fo
  | .v _ (.v _ (.v _ (.s _ _ _ _ (.s _ _ _ _ (.s _ _ _ _ (.s _ _ _ k _)))))) => k
  | _ => .nil

/-- Where the lists of a term begin in their blocks. -/
def Offs (O : Nat → Nat) : Fo → Prop
  | .nil => True
  | .v _ r => Offs O r
  | .s a _ _ ks r => (0 < ks.len → ∀ b o, a = some ⟨b, o, none⟩ → O b = o) ∧ Offs O ks ∧ Offs O r

theorem Offs.cong {O P : Nat → Nat} : ∀ {F : Fo} {W : World} {S : Nat → Prop}, F.Subs W S → Offs O F → (∀ c ∈ F.inn, P c = O c) → Offs P F
  | .nil, _, _, _, _, _ => trivial
  | .v _ r, W, S, hs, h, e => Offs.cong (F := r) (W := W) (S := S) hs h e
  | .s a n c ks r, W, S, hs, h, e => by
    refine ⟨fun hl b o ha => ?_, ?_, ?_⟩
    · rw [← h.1 hl b o ha]
      exact e b (by subst ha; simp [Fo.inn, blk_pos hl])
    · by_cases hl : 0 < ks.len
      · obtain ⟨b, o, -, -, -, hk⟩ := hs.1.2.2 hl
        exact Offs.cong hk h.2.1 (fun c hc => e c (by simp only [Fo.inn, List.mem_append]; exact .inl (.inr hc)))
      · rw [Fo.len_zero hl]
        trivial
    · exact Offs.cong hs.2 h.2.2 (fun c hc => e c (by simp only [Fo.inn, List.mem_append]; exact .inr hc))

open Classical in
/-- There are such numbers. -/
theorem offs_ex : ∀ {F : Fo} {W : World} {S : Nat → Prop}, F.Subs W S → F.inn.Nodup → ∃ O, Offs O F
  | .nil, _, _, _, _ => ⟨fun _ => 0, trivial⟩
  | .v _ r, W, S, hs, hn => offs_ex (F := r) (W := W) (S := S) hs hn
  | .s a n c ks r, W, S, hs, hn => by
    simp only [Fo.inn] at hn
    obtain ⟨h1, h2, h3⟩ := List.nodup_append.1 hn
    obtain ⟨h4, h5, h6⟩ := List.nodup_append.1 h1
    obtain ⟨O2, ho2⟩ := offs_ex hs.2 h2
    by_cases hl : 0 < ks.len
    · obtain ⟨b, o, rfl, -, -, hk⟩ := hs.1.2.2 hl
      obtain ⟨O1, ho1⟩ := offs_ex hk h5
      rw [blk_pos hl] at h1 h3 h6
      have hb1 : b ∉ ks.inn := fun hc => h6 b (by simp) b hc rfl
      have hb2 : b ∉ r.inn := fun hc => h3 b (by simp) b hc rfl
      refine ⟨fun c => if c = b then o else if c ∈ ks.inn then O1 c else O2 c, fun _ b' o' e => ?_, ?_, ?_⟩
      · cases e
        exact if_pos rfl
      · exact Offs.cong hk ho1 (fun c hc => by rw [if_neg (fun e => hb1 (by rw [← e]; exact hc)), if_pos hc])
      · refine Offs.cong hs.2 ho2 (fun c hc => ?_)
        rw [if_neg (fun e => hb2 (by rw [← e]; exact hc)), if_neg (fun hx => h3 c (List.mem_append.2 (.inr hx)) c hc rfl)]
    · refine ⟨O2, fun hl2 => absurd hl2 hl, ?_, ho2⟩
      rw [Fo.len_zero hl]
      trivial

end Go.Proofs.Ytfgmgbkiebeeoaa

namespace Go.Proofs.Ytfgmgbkiebeeoaa
open Go.RowKit Go.Joins

theorem itK_pure (O : Nat → Nat) (b : Nat) : ∀ (n o : Nat) (F : Fo), Fit E F (rep (E 3) n) → (itK b o F).map Nd.pos = (List.range n).map (fun j => (b, o + j * 7)) ∧ ((itK b o F).map (fun d => tcK d.x)).sum = tcK F ∧ List.Sublist ((itK b o F).flatMap (fun d => d.x.inn)) F.inn ∧ (Offs O F → ∀ d ∈ itK b o F, Offs O d.x)
  | 0, o, F, h => by
    rw [fit_nil h]
    exact ⟨rfl, by simp [itK, tcK_nil], by simp [itK], fun _ d hd => by simp [itK] at hd⟩
  | n + 1, o, F, h => by
    obtain ⟨x, q, rfl, hx, hq, hl⟩ := Fit.split (fs := E 3) (gs := rep (E 3) n) h
    obtain ⟨g1, g2, g3, g4⟩ := itK_pure O b n (o + 7) q hq
    obtain ⟨k, nm, mn, la, ln, lc, lk, na, nn, nc, nk, ka, kn, kc, kk, aa, an, ac, ak, rfl, -⟩ := core_open hx
    simp only [Fo.app, itK]
    refine ⟨?_, ?_, ?_, fun ho d hd => ?_⟩
    · rw [List.map_cons, g1, List.range_succ_eq_map, List.map_cons, List.map_map]
      simp only [Nd.pos, Nat.zero_mul, Nat.add_zero, List.cons.injEq, true_and]
      apply List.map_congr_left
      intro j _
      simp only [Function.comp]
      congr 1
      omega
    · simp only [List.map_cons, List.sum_cons, g2, tcK_nd, tcK_nil, Nat.add_zero]
    · simp only [List.flatMap_cons, Fo.inn, List.append_nil]
      simp only [List.append_assoc]
      refine List.Sublist.append_left (List.Sublist.append_left (List.Sublist.append_left (List.Sublist.append_left (List.Sublist.append_left (List.Sublist.append_left (List.Sublist.append_left (List.Sublist.append_left g3 _) _) _) _) _) _) _) _
    · simp only [Offs] at ho
      rcases List.mem_cons.1 hd with rfl | hd
      · simp only [Offs]
        exact ⟨ho.1, ho.2.1, ho.2.2.1, ho.2.2.2.1, ho.2.2.2.2.1, ho.2.2.2.2.2.1, ho.2.2.2.2.2.2.1, ho.2.2.2.2.2.2.2.1, trivial⟩
      · exact g4 ho.2.2.2.2.2.2.2.2 d hd

theorem itA_pure (O : Nat → Nat) (b : Nat) : ∀ (n o : Nat) (F : Fo), Fit E F (rep (E 2) n) → (itA b o F).map Nd.pos = (List.range n).map (fun j => (b, o + j * 9 + 2)) ∧ ((itA b o F).map (fun d => tcK d.x)).sum = tcA F ∧ List.Sublist ((itA b o F).flatMap (fun d => d.x.inn)) F.inn ∧ (Offs O F → ∀ d ∈ itA b o F, Offs O d.x)
  | 0, o, F, h => by
    rw [fit_nil h]
    exact ⟨rfl, by simp [itA, tcA_nil], by simp [itA], fun _ d hd => by simp [itA] at hd⟩
  | n + 1, o, F, h => by
    obtain ⟨x, q, rfl, hx, hq, hl⟩ := Fit.split (fs := E 2) (gs := rep (E 2) n) h
    obtain ⟨g1, g2, g3, g4⟩ := itA_pure O b n (o + 9) q hq
    obtain ⟨con, ca, cn, cc, ck, y, rfl, -, -, hy⟩ := alt_open hx
    obtain ⟨k, nm, mn, la, ln, lc, lk, na, nn, nc, nk, ka, kn, kc, kk, aa, an, ac, ak, rfl, -⟩ := core_open hy
    simp only [Fo.app, itA]
    refine ⟨?_, ?_, ?_, fun ho d hd => ?_⟩
    · rw [List.map_cons, g1, List.range_succ_eq_map, List.map_cons, List.map_map]
      simp only [Nd.pos, Nat.zero_mul, Nat.add_zero, List.cons.injEq, true_and]
      apply List.map_congr_left
      intro j _
      simp only [Function.comp]
      congr 1
      omega
    · simp only [List.map_cons, List.sum_cons, g2, tcA_nd, tcK_nd, tcK_nil, Nat.add_zero]
    · simp only [List.flatMap_cons, Fo.inn, List.append_nil]
      simp only [List.append_assoc]
      refine List.Sublist.trans ?_ (List.sublist_append_right _ _)
      refine List.Sublist.trans ?_ (List.sublist_append_right _ _)
      refine List.Sublist.append_left (List.Sublist.append_left (List.Sublist.append_left (List.Sublist.append_left (List.Sublist.append_left (List.Sublist.append_left (List.Sublist.append_left (List.Sublist.append_left g3 _) _) _) _) _) _) _) _
    · simp only [Offs] at ho
      replace ho := ho.2.2
      rcases List.mem_cons.1 hd with rfl | hd
      · simp only [Offs]
        exact ⟨ho.1, ho.2.1, ho.2.2.1, ho.2.2.2.1, ho.2.2.2.2.1, ho.2.2.2.2.2.1, ho.2.2.2.2.2.2.1, ho.2.2.2.2.2.2.2.1, trivial⟩
      · exact g4 ho.2.2.2.2.2.2.2.2 d hd

/-- The terms of lists that are known. -/
def ndK (O : Nat → Nat) (KK : List (Nat × Nat)) (KR : List Fo) : List Nd := (KK.zip KR).flatMap (fun p => itK p.1.1 (O p.1.1) p.2)
def ndA (O : Nat → Nat) (AA : List (Nat × Nat)) (AR : List Fo) : List Nd := (AA.zip AR).flatMap (fun p => itA p.1.1 (O p.1.1) p.2)

theorem ndK_app (O : Nat → Nat) {KK : List (Nat × Nat)} {KR : List Fo} (h : KR.length = KK.length) (e : Nat × Nat) (F : Fo) : ndK O (KK ++ [e]) (KR ++ [F]) = ndK O KK KR ++ itK e.1 (O e.1) F := by
  unfold ndK
  rw [List.zip_append h.symm, List.flatMap_append]
  simp
theorem ndA_app (O : Nat → Nat) {AA : List (Nat × Nat)} {AR : List Fo} (h : AR.length = AA.length) (e : Nat × Nat) (F : Fo) : ndA O (AA ++ [e]) (AR ++ [F]) = ndA O AA AR ++ itA e.1 (O e.1) F := by
  unfold ndA
  rw [List.zip_append h.symm, List.flatMap_append]
  simp

/-- The lists of a term are known. -/
structure Done (O : Nat → Nat) (KK : List (Nat × Nat)) (KR : List Fo) (AA : List (Nat × Nat)) (AR : List Fo) (x : Fo) : Prop where
  k : 0 < kN x → ∃ i b : Nat, kA x = some ⟨b, O b, none⟩ ∧ KK[i]? = some (b, kN x) ∧ KR[i]? = some (kF x)
  a : 0 < aN x → ∃ i b : Nat, aA x = some ⟨b, O b, none⟩ ∧ AA[i]? = some (b, aN x) ∧ AR[i]? = some (aF x)

theorem Done.mono {O : Nat → Nat} {KK AA : List (Nat × Nat)} {KR AR : List Fo} {x : Fo} (h : Done O KK KR AA AR x) (K2 A2 : List (Nat × Nat)) (R2 S2 : List Fo) : Done O (KK ++ K2) (KR ++ R2) (AA ++ A2) (AR ++ S2) x := by
  refine ⟨fun hp => ?_, fun hp => ?_⟩
  · obtain ⟨i, b, h1, h2, h3⟩ := h.k hp
    exact ⟨i, b, h1, by rw [List.getElem?_append_left (List.getElem?_eq_some_iff.1 h2).1]; exact h2, by rw [List.getElem?_append_left (List.getElem?_eq_some_iff.1 h3).1]; exact h3⟩
  · obtain ⟨i, b, h1, h2, h3⟩ := h.a hp
    exact ⟨i, b, h1, by rw [List.getElem?_append_left (List.getElem?_eq_some_iff.1 h2).1]; exact h2, by rw [List.getElem?_append_left (List.getElem?_eq_some_iff.1 h3).1]; exact h3⟩

/-- What is known while the terms are gone through: Qd wait, X are at hand, R are blocks of their lists, c terms are in these. -/
structure GI (O : Nat → Nat) (W : World) (S : Nat → Prop) (KK AA : List (Nat × Nat)) (KR AR : List Fo) (Qd X : List Nd) (R : List Nat) (c tot : Nat) : Prop where
  lk : KR.length = KK.length
  la : AR.length = AA.length
  fk : ∀ (i : Nat) e r, KK[i]? = some e → KR[i]? = some r → Fit E r (rep (E 3) e.2) ∧ 0 < e.2
  fa : ∀ (i : Nat) e r, AA[i]? = some e → AR[i]? = some r → Fit E r (rep (E 2) e.2) ∧ 0 < e.2
  ok : ∀ d ∈ ndK O KK KR ++ ndA O AA AR, d.Ok W S ∧ Offs O d.x
  qs : ∀ d ∈ Qd, d ∈ ndK O KK KR ++ ndA O AA AR
  pd : ∀ d ∈ ndK O KK KR ++ ndA O AA AR, d ∈ Qd ∨ d ∈ X ∨ Done O KK KR AA AR d.x
  nd : ((KK.map Prod.fst ++ AA.map Prod.fst) ++ (Qd.flatMap (fun d => d.x.inn) ++ R)).Nodup
  ct : (ndK O KK KR ++ ndA O AA AR).length + (Qd.map (fun d => tcK d.x)).sum + c = tot + Qd.length
  sz : Qd.length ≤ (ndK O KK KR ++ ndA O AA AR).length ∧ KK.length + AA.length ≤ (ndK O KK KR ++ ndA O AA AR).length
  tb : (∀ r ∈ KR, tcK r ≤ tot) ∧ ∀ r ∈ AR, tcA r ≤ tot

theorem sum_ge : ∀ (Q : List Nd), (∀ d ∈ Q, 1 ≤ tcK d.x) → Q.length ≤ (Q.map (fun d => tcK d.x)).sum
  | [], _ => Nat.le_refl _
  | d :: Q, h => by
    have h1 := h d List.mem_cons_self
    have h2 := sum_ge Q (fun e he => h e (List.mem_cons_of_mem _ he))
    simp only [List.length_cons, List.map_cons, List.sum_cons]
    omega

theorem Nd.Ok.one {W : World} {S : Nat → Prop} {d : Nd} (h : d.Ok W S) : 1 ≤ tcK d.x := by
  obtain ⟨k, nm, mn, la, ln, lc, lk, na, nn, nc, nk, ka, kn, kc, kk, aa, an, ac, ak, e, -⟩ := core_open h.fit
  rw [e, tcK_nd]
  omega

section
variable {O : Nat → Nat} {W : World} {S : Nat → Prop} {KK AA : List (Nat × Nat)} {KR AR : List Fo} {Qd X : List Nd} {R R' : List Nat} {c tot : Nat}

/-- Blocks that are not asked for any more. -/
theorem GI.less (h : GI O W S KK AA KR AR Qd X R c tot) (hs : List.Sublist R' R) : GI O W S KK AA KR AR Qd X R' c tot :=
  ⟨h.lk, h.la, h.fk, h.fa, h.ok, h.qs, h.pd, h.nd.sublist (List.Sublist.append_left (List.Sublist.append_left hs _) _), h.ct, h.sz, h.tb⟩

/-- The last one that waits is at hand. -/
theorem GI.pop {Q0 : List Nd} {d : Nd} (h : GI O W S KK AA KR AR (Q0 ++ [d]) [] [] 0 tot) : GI O W S KK AA KR AR Q0 [d] d.x.inn (tcK d.x - 1) tot ∧ 1 ≤ tcK d.x := by
  have hd := h.ok d (h.qs d (by simp))
  have h1 : 1 ≤ tcK d.x := by
    obtain ⟨k, nm, mn, la, ln, lc, lk, na, nn, nc, nk, ka, kn, kc, kk, aa, an, ac, ak, e, -⟩ := core_open hd.1.fit
    rw [e, tcK_nd]
    omega
  refine ⟨⟨h.lk, h.la, h.fk, h.fa, h.ok, fun x hx => h.qs x (List.mem_append.2 (.inl hx)), fun x hx => ?_, ?_, ?_, ⟨?_, h.sz.2⟩, h.tb⟩, h1⟩
  · rcases h.pd x hx with e | e | e
    · rcases List.mem_append.1 e with e | e
      · exact .inl e
      · exact .inr (.inl e)
    · cases e
    · exact .inr (.inr e)
  · have := h.nd
    rw [List.append_nil, List.flatMap_append] at this
    simpa using this
  · have := h.ct
    simp only [List.map_append, List.sum_append, List.length_append, List.map_cons, List.map_nil, List.sum_cons, List.sum_nil, List.length_cons, List.length_nil] at this ⊢
    omega
  · have := h.sz.1
    simp only [List.length_append, List.length_cons, List.length_nil] at this ⊢
    omega

/-- A list of kids more. -/
theorem GI.addK {b n : Nat} {F : Fo} (h : GI O W S KK AA KR AR Qd X ((b :: F.inn) ++ R) (tcK F + c) tot) (hf : Fit E F (rep (E 3) n)) (hn : 0 < n) (ho : ∀ d ∈ itK b (O b) F, d.Ok W S ∧ Offs O d.x) :
    GI O W S (KK ++ [(b, n)]) AA (KR ++ [F]) AR (Qd ++ itK b (O b) F) X R c tot := by
  obtain ⟨p1, p2, p3, -⟩ := itK_pure O b n (O b) F hf
  have pl : (itK b (O b) F).length = n := by have := congrArg List.length p1; simpa using this
  have hmem : ∀ d, d ∈ ndK O (KK ++ [(b, n)]) (KR ++ [F]) ++ ndA O AA AR ↔ d ∈ ndK O KK KR ++ ndA O AA AR ∨ d ∈ itK b (O b) F := fun d => by
    rw [ndK_app O h.lk]
    simp only [List.mem_append]
    constructor
    · rintro ((h | h) | h)
      · exact .inl (.inl h)
      · exact .inr h
      · exact .inl (.inr h)
    · rintro ((h | h) | h)
      · exact .inl (.inl h)
      · exact .inr h
      · exact .inl (.inr h)
  refine ⟨by simp [h.lk], h.la, fun i e r he hr => ?_, h.fa, fun d hd => ?_, fun d hd => ?_, fun d hd => ?_, ?_, ?_, ?_, ⟨fun r hr => ?_, h.tb.2⟩⟩
  · rw [List.getElem?_append] at he hr
    rw [h.lk] at hr
    split at he
    · rename_i hi
      rw [if_pos hi] at hr
      exact h.fk i e r he hr
    · rename_i hi
      rw [if_neg hi] at hr
      obtain ⟨j, hj⟩ : ∃ j, j = i - KK.length := ⟨_, rfl⟩
      rw [← hj] at he hr
      cases j with
      | zero =>
        cases he
        cases hr
        exact ⟨hf, hn⟩
      | succ j => simp at he
  · rcases (hmem d).1 hd with e | e
    · exact h.ok d e
    · exact ho d e
  · rcases List.mem_append.1 hd with e | e
    · exact (hmem d).2 (.inl (h.qs d e))
    · exact (hmem d).2 (.inr e)
  · rcases (hmem d).1 hd with e | e
    · rcases h.pd d e with e | e | e
      · exact .inl (List.mem_append.2 (.inl e))
      · exact .inr (.inl e)
      · have := e.mono [(b, n)] [] [F] []
        rw [List.append_nil, List.append_nil] at this
        exact .inr (.inr this)
    · exact .inl (List.mem_append.2 (.inr e))
  · refine (h.nd.perm (l' := (KK.map Prod.fst ++ [b] ++ AA.map Prod.fst) ++ (Qd.flatMap (fun d => d.x.inn) ++ F.inn ++ R)) ?_).sublist ?_
    · simp only [List.append_assoc, List.cons_append, List.nil_append]
      refine List.Perm.append_left _ ?_
      have := List.perm_middle (l₁ := AA.map Prod.fst ++ Qd.flatMap (fun d => d.x.inn)) (l₂ := F.inn ++ R) (a := b)
      simpa only [List.append_assoc] using this
    · simp only [List.map_append, List.map_cons, List.map_nil, List.flatMap_append]
      exact List.Sublist.append_left (List.Sublist.append_right (List.Sublist.append_left p3 _) _) _
  · have hc := h.ct
    rw [ndK_app O h.lk]
    simp only [List.length_append, List.map_append, List.sum_append, p2, pl] at hc ⊢
    omega
  · have hc := h.sz
    rw [ndK_app O h.lk]
    simp only [List.length_append, pl, List.length_cons, List.length_nil] at hc ⊢
    omega
  · rcases List.mem_append.1 hr with e | e
    · exact h.tb.1 r e
    · rw [List.mem_singleton] at e
      rw [e]
      have h1 := sum_ge Qd (fun d hd => (h.ok d (h.qs d hd)).1.one)
      have h2 := h.ct
      have h3 := h.sz
      omega
/-- A list of alternatives more. -/
theorem GI.addA {b n : Nat} {F : Fo} (h : GI O W S KK AA KR AR Qd X ((b :: F.inn) ++ R) (tcA F + c) tot) (hf : Fit E F (rep (E 2) n)) (hn : 0 < n) (ho : ∀ d ∈ itA b (O b) F, d.Ok W S ∧ Offs O d.x) :
    GI O W S KK (AA ++ [(b, n)]) KR (AR ++ [F]) (Qd ++ itA b (O b) F) X R c tot := by
  obtain ⟨p1, p2, p3, -⟩ := itA_pure O b n (O b) F hf
  have pl : (itA b (O b) F).length = n := by have := congrArg List.length p1; simpa using this
  have hmem : ∀ d, d ∈ ndK O KK KR ++ ndA O (AA ++ [(b, n)]) (AR ++ [F]) ↔ d ∈ ndK O KK KR ++ ndA O AA AR ∨ d ∈ itA b (O b) F := fun d => by
    rw [ndA_app O h.la]
    simp only [List.mem_append]
    constructor
    · rintro (h | h | h)
      · exact .inl (.inl h)
      · exact .inl (.inr h)
      · exact .inr h
    · rintro ((h | h) | h)
      · exact .inl h
      · exact .inr (.inl h)
      · exact .inr (.inr h)
  refine ⟨h.lk, by simp [h.la], h.fk, fun i e r he hr => ?_, fun d hd => ?_, fun d hd => ?_, fun d hd => ?_, ?_, ?_, ?_, ⟨h.tb.1, fun r hr => ?_⟩⟩
  · rw [List.getElem?_append] at he hr
    rw [h.la] at hr
    split at he
    · rename_i hi
      rw [if_pos hi] at hr
      exact h.fa i e r he hr
    · rename_i hi
      rw [if_neg hi] at hr
      obtain ⟨j, hj⟩ : ∃ j, j = i - AA.length := ⟨_, rfl⟩
      rw [← hj] at he hr
      cases j with
      | zero =>
        cases he
        cases hr
        exact ⟨hf, hn⟩
      | succ j => simp at he
  · rcases (hmem d).1 hd with e | e
    · exact h.ok d e
    · exact ho d e
  · rcases List.mem_append.1 hd with e | e
    · exact (hmem d).2 (.inl (h.qs d e))
    · exact (hmem d).2 (.inr e)
  · rcases (hmem d).1 hd with e | e
    · rcases h.pd d e with e | e | e
      · exact .inl (List.mem_append.2 (.inl e))
      · exact .inr (.inl e)
      · have := e.mono [] [(b, n)] [] [F]
        rw [List.append_nil, List.append_nil] at this
        exact .inr (.inr this)
    · exact .inl (List.mem_append.2 (.inr e))
  · refine (h.nd.perm (l' := (KK.map Prod.fst ++ (AA.map Prod.fst ++ [b])) ++ (Qd.flatMap (fun d => d.x.inn) ++ F.inn ++ R)) ?_).sublist ?_
    · simp only [List.append_assoc, List.cons_append, List.nil_append]
      refine List.Perm.append_left _ (List.Perm.append_left _ ?_)
      exact List.perm_middle
    · simp only [List.map_append, List.map_cons, List.map_nil, List.flatMap_append]
      exact List.Sublist.append_left (List.Sublist.append_right (List.Sublist.append_left p3 _) _) _
  · have hc := h.ct
    rw [ndA_app O h.la]
    simp only [List.length_append, List.map_append, List.sum_append, p2, pl] at hc ⊢
    omega
  · have hc := h.sz
    rw [ndA_app O h.la]
    simp only [List.length_append, pl, List.length_cons, List.length_nil] at hc ⊢
    omega
  · rcases List.mem_append.1 hr with e | e
    · exact h.tb.2 r e
    · rw [List.mem_singleton] at e
      rw [e]
      have h1 := sum_ge Qd (fun d hd => (h.ok d (h.qs d hd)).1.one)
      have h2 := h.ct
      have h3 := h.sz
      omega

/-- The term at hand is done. -/
theorem GI.done {d : Nd} (h : GI O W S KK AA KR AR Qd [d] R c tot) (hd : Done O KK KR AA AR d.x) : GI O W S KK AA KR AR Qd [] R c tot := by
  refine ⟨h.lk, h.la, h.fk, h.fa, h.ok, h.qs, fun x hx => ?_, h.nd, h.ct, h.sz, h.tb⟩
  rcases h.pd x hx with e | e | e
  · exact .inl e
  · rw [List.mem_singleton] at e
    rw [e]
    exact .inr (.inr hd)
  · exact .inr (.inr e)

theorem GI.bound (h : GI O W S KK AA KR AR Qd X R c tot) : (ndK O KK KR ++ ndA O AA AR).length ≤ tot ∧ Qd.length ≤ tot ∧ KK.length + AA.length ≤ tot := by
  have h1 := sum_ge Qd (fun d hd => (h.ok d (h.qs d hd)).1.one)
  have h2 := h.ct
  have h3 := h.sz
  omega

end

end Go.Proofs.Ytfgmgbkiebeeoaa

namespace Go.Proofs.Ytfgmgbkiebeeoaa
open Go.RowKit Go.Joins

/-- Each block of a row has a cell. -/
theorem inn_cell {W : World} {S : Nat → Prop} : ∀ {F : Fo}, F.Subs W S → ∀ c ∈ F.inn, ∃ o v, W.cell? ⟨c, o, none⟩ = some v
  | .nil, _, c, hc => by simp [Fo.inn] at hc
  | .v _ r, h, c, hc => inn_cell (F := r) h c hc
  | .s a n cap ks r, h, c, hc => by
    simp only [Fo.inn, List.mem_append] at hc
    rcases hc with (hc | hc) | hc
    · by_cases hl : 0 < ks.len
      · obtain ⟨b, o, rfl, -, hcel, -⟩ := h.1.2.2 hl
        rw [blk_pos hl, List.mem_singleton] at hc
        subst hc
        obtain ⟨v, hv⟩ : ∃ v, ks.vals[0]? = some v := ⟨_, List.getElem?_eq_getElem (by rw [Fo.vals_length]; exact hl)⟩
        exact ⟨o + 0, v, hcel 0 v hv⟩
      · rw [Fo.len_zero hl] at hc
        simp [Fo.len, blk_zero] at hc
    · by_cases hl : 0 < ks.len
      · obtain ⟨b, o, -, -, -, hk⟩ := h.1.2.2 hl
        exact inn_cell hk c hc
      · rw [Fo.len_zero hl] at hc
        simp [Fo.inn] at hc
    · exact inn_cell h.2 c hc

/-- The state: terms wait, lists are known. -/
def GX (O : Nat → Nat) (RG : Nat → Option Value) (W0 : World) (S : Nat → Prop) (lo G wb fb : Nat) (V : World) (KK AA : List (Nat × Nat)) (KR AR : List Fo) (Qd X : List Nd) (R : List Nat) (c tot : Nat) : Prop :=
  (∃ mk sk ma sa wv, St O O RG lo G wb fb V KK AA (Qd.map Nd.pos) mk sk ma sa wv) ∧ GI O W0 S KK AA KR AR Qd X R c tot ∧ Kept (fun d => d < lo ∧ d ≠ G ∧ d ≠ wb) W0 V

/-- What all blocks of the term are. -/
def SB (W0 : World) (lo G wb : Nat) (c : Nat) : Prop := LiveB W0 c ∧ c < W0.heap.size ∧ c + 5 < lo ∧ c ≠ G ∧ c ≠ wb

theorem lt5 {c lo : Nat} (h : c + 5 < lo) : c < lo := by omega

theorem kidsAt_pos {O : Nat → Nat} {b n : Nat} {F : Fo} (h : Fit E F (rep (E 3) n)) : (itK b (O b) F).map Nd.pos = kidsAt O b n := (itK_pure O b n (O b) F h).1
theorem altsAt_pos {O : Nat → Nat} {b n : Nat} {F : Fo} (h : Fit E F (rep (E 2) n)) : (itA b (O b) F).map Nd.pos = altsAt O b n := (itA_pure O b n (O b) F h).1

theorem add_kids {O : Nat → Nat} {RG : Nat → Option Value} {W0 : World} {lo G wb fb : Nat} {V : World} {KK AA : List (Nat × Nat)} {KR AR : List Fo} {Qd X : List Nd} {R : List Nat} {c tot : Nat} {a : Option Addr} {n cap : Nat} {F : Fo}
    (h : GX O RG W0 (SB W0 lo G wb) lo G wb fb V KK AA KR AR Qd X ((blk a F.len ++ F.inn) ++ R) (tcK F + c) tot) (hf : Fit E F (rep (E 3) n)) (hs : Fo.Sub W0 (SB W0 lo G wb) a n cap F) (ho : Offs O (.s a n cap F .nil)) (ht : tot ≤ 4000000) :
    Calls Try.prog 36 #[.pointer (some ⟨G, 0, none⟩), .slice a n cap, wfn wb] V fun e V' => e = .returned (.tuple #[]) ∧ ∃ K2 R2 Q2, GX O RG W0 (SB W0 lo G wb) lo G wb fb V' (KK ++ K2) AA (KR ++ R2) AR (Qd ++ Q2) X R c tot ∧ (0 < n → ∃ i b : Nat, a = some ⟨b, O b, none⟩ ∧ (KK ++ K2)[i]? = some (b, n) ∧ (KR ++ R2)[i]? = some F) ∧ (Q2.map (fun d => tcK d.x)).sum = tcK F := by
  obtain ⟨⟨mk, sk, ma, sa, wv, st⟩, gi, hk⟩ := h
  have hlen : F.len = n * 7 := by have := Fit.len hf; rw [rep_len] at this; simpa [show (E 3).length = 7 from rfl] using this
  by_cases h0 : n = 0
  · subst h0
    have e : F = .nil := fit_nil hf
    subst e
    refine (i_addK0 st a cap).mono ?_
    rintro e V' ⟨rfl, mk', sk', wv', s1, s2⟩
    refine ⟨rfl, [], [], [], ⟨⟨mk', sk', ma, sa, wv', by simpa using s1⟩, ?_, hk.trans s2⟩, fun h => absurd h (by omega), by simp [tcK_nil]⟩
    have := gi.less (R' := R) (by simp)
    rw [tcK_nil, Nat.zero_add] at this
    simpa using this
  · have hn : 0 < n := by omega
    obtain ⟨b, o, rfl, hb, hc, hsb⟩ := hs.2.2 (by omega)
    have eo : O b = o := ho.1 (by omega) b o rfl
    subst eo
    rw [blk_pos (by omega)] at gi
    obtain ⟨p1, p2, p3, p4⟩ := itK_pure O b n (O b) F hf
    obtain ⟨q1, q2, q3⟩ := itK_ok hb n (O b) F hf hc hsb
    have gi2 := gi.addK (b := b) (n := n) (F := F) hf hn (fun d hd => ⟨q3 d hd, p4 ho.2.1 d hd⟩)
    have bd := gi2.bound
    have hbK : ∀ e ∈ KK, e.1 ≠ b := fun e he eb => by
      have := (List.nodup_append.1 gi.nd).2.2 e.1 (List.mem_append.2 (.inl (List.mem_map.2 ⟨e, he, rfl⟩))) b (by simp)
      exact this eb
    have hbl : b < W0.heap.size := hb.2.1
    have lb : LiveB V b := hb.1.kept hk hbl ⟨(lt5 hb.2.2.1), hb.2.2.2.1, hb.2.2.2.2⟩
    simp only [List.length_append, q1, List.length_cons, List.length_nil] at bd
    refine (i_addK (n := n) (cap := cap) rfl st hbK ⟨lb, (lt5 hb.2.2.1), hb.2.2.2.1, hb.2.2.2.2⟩ (by omega) (by omega) (by rw [List.length_map]; omega) hs.1).mono ?_
    rintro e V' ⟨rfl, mk', sk', wv', s1, s2⟩
    refine ⟨rfl, [(b, n)], [F], itK b (O b) F, ⟨⟨mk', sk', ma, sa, wv', ?_⟩, gi2, hk.trans s2⟩, fun _ => ⟨KK.length, b, rfl, by simp, by rw [← gi.lk]; simp⟩, p2⟩
    rw [List.map_append, kidsAt_pos hf]
    have e1 : upto KK b n = KK ++ [(b, n)] := if_neg h0
    rw [e1] at s1
    exact s1

theorem add_alts {O : Nat → Nat} {RG : Nat → Option Value} {W0 : World} {lo G wb fb : Nat} {V : World} {KK AA : List (Nat × Nat)} {KR AR : List Fo} {Qd X : List Nd} {R : List Nat} {c tot : Nat} {a : Option Addr} {n cap : Nat} {F : Fo}
    (h : GX O RG W0 (SB W0 lo G wb) lo G wb fb V KK AA KR AR Qd X ((blk a F.len ++ F.inn) ++ R) (tcA F + c) tot) (hf : Fit E F (rep (E 2) n)) (hs : Fo.Sub W0 (SB W0 lo G wb) a n cap F) (ho : Offs O (.s a n cap F .nil)) (ht : tot ≤ 4000000) :
    Calls Try.prog 37 #[.pointer (some ⟨G, 4, none⟩), .slice a n cap, afn fb] V fun e V' => e = .returned (.tuple #[]) ∧ ∃ K2 R2 Q2, GX O RG W0 (SB W0 lo G wb) lo G wb fb V' KK (AA ++ K2) KR (AR ++ R2) (Qd ++ Q2) X R c tot ∧ (0 < n → ∃ i b : Nat, a = some ⟨b, O b, none⟩ ∧ (AA ++ K2)[i]? = some (b, n) ∧ (AR ++ R2)[i]? = some F) ∧ (Q2.map (fun d => tcK d.x)).sum = tcA F := by
  obtain ⟨⟨mk, sk, ma, sa, wv, st⟩, gi, hk⟩ := h
  have hlen : F.len = n * 9 := by have := Fit.len hf; rw [rep_len] at this; simpa [show (E 2).length = 9 from rfl] using this
  by_cases h0 : n = 0
  · subst h0
    have e : F = .nil := fit_nil hf
    subst e
    refine (i_addA0 st a cap).mono ?_
    rintro e V' ⟨rfl, ma', sa', wv', s1, s2⟩
    refine ⟨rfl, [], [], [], ⟨⟨mk, sk, ma', sa', wv', by simpa using s1⟩, ?_, hk.trans s2⟩, fun h => absurd h (by omega), by simp [tcA_nil]⟩
    have := gi.less (R' := R) (by simp)
    rw [tcA_nil, Nat.zero_add] at this
    simpa using this
  · have hn : 0 < n := by omega
    obtain ⟨b, o, rfl, hb, hc, hsb⟩ := hs.2.2 (by omega)
    have eo : O b = o := ho.1 (by omega) b o rfl
    subst eo
    rw [blk_pos (by omega)] at gi
    obtain ⟨p1, p2, p3, p4⟩ := itA_pure O b n (O b) F hf
    obtain ⟨q1, q2, q3⟩ := itA_ok hb n (O b) F hf hc hsb
    have gi2 := gi.addA (b := b) (n := n) (F := F) hf hn (fun d hd => ⟨q3 d hd, p4 ho.2.1 d hd⟩)
    have bd := gi2.bound
    have hbK : ∀ e ∈ AA, e.1 ≠ b := fun e he eb => by
      have := (List.nodup_append.1 gi.nd).2.2 e.1 (List.mem_append.2 (.inr (List.mem_map.2 ⟨e, he, rfl⟩))) b (by simp)
      exact this eb
    have hbl : b < W0.heap.size := hb.2.1
    have lb : LiveB V b := hb.1.kept hk hbl ⟨(lt5 hb.2.2.1), hb.2.2.2.1, hb.2.2.2.2⟩
    simp only [List.length_append, q1, List.length_cons, List.length_nil] at bd
    refine (i_addA (n := n) (cap := cap) rfl st hbK ⟨lb, (lt5 hb.2.2.1), hb.2.2.2.1, hb.2.2.2.2⟩ (by omega) (by omega) (by rw [List.length_map]; omega) hs.1).mono ?_
    rintro e V' ⟨rfl, ma', sa', wv', s1, s2⟩
    refine ⟨rfl, [(b, n)], [F], itA b (O b) F, ⟨⟨mk, sk, ma', sa', wv', ?_⟩, gi2, hk.trans s2⟩, fun _ => ⟨AA.length, b, rfl, by simp, by rw [← gi.la]; simp⟩, p2⟩
    rw [List.map_append, altsAt_pos hf]
    have e1 : upto AA b n = AA ++ [(b, n)] := if_neg h0
    rw [e1] at s1
    exact s1

end Go.Proofs.Ytfgmgbkiebeeoaa

namespace Go.Proofs.Ytfgmgbkiebeeoaa
open Go.RowKit Go.Joins Go.MapKept Go.ChangeMaps

/-- A list of terms as a key. -/
def lk (x : Nat × Nat) : Value := .agg #[.int .i64 (x.1 : Int), .int .i64 (x.2 : Int)]

theorem lk_cmp {w : World} (x y : Nat × Nat) : (Op.equalIn 10000 80 (lk x) (lk y)).run Try.prog w = .ok (decide (x = y)) w := by
  have hp : Try.prog.stoodInHeld 80 = false := by kernel_rfl
  have : ∀ dd, (Op.equalIn (dd + 1 + 1) 80 (lk x) (lk y)).run Try.prog w = .ok (decide (x = y)) w := fun dd => by
    unfold lk
    rw [run_equalIn_agg (hp := hp) (ht := by simp [go_sem])]
    obtain ⟨a, b⟩ := x
    obtain ⟨c, d⟩ := y
    by_cases h1 : a = c
    · by_cases h2 : b = d
      · subst h1; subst h2
        simp [go_sem, Op.equalIn]
      · have h3 : ¬ (b : Int) = (d : Int) := by omega
        subst h1
        simp [go_sem, Op.equalIn, h2]
        exact h3
    · have h3 : ¬ (a : Int) = (c : Int) := by omega
      simp [go_sem, Op.equalIn, h1]
      exact fun h => absurd h h3
  exact this 9998

/-- Numbers of lists. -/
def numd : List (Nat × Nat) → Nat → List ((Nat × Nat) × Nat)
  | [], _ => []
  | x :: r, n => (x, n) :: numd r (n + 1)

theorem numd_app (x : Nat × Nat) : ∀ (L : List (Nat × Nat)) (n : Nat), numd (L ++ [x]) n = numd L n ++ [(x, n + L.length)]
  | [], n => rfl
  | y :: r, n => by
    simp only [List.cons_append, numd, List.length_cons]
    rw [numd_app x r (n + 1), show n + 1 + r.length = n + (r.length + 1) from by omega]

/-- The map of lists. -/
def LM (w : World) (M : Nat) (LS : List (Nat × Nat)) : Prop :=
  ∃ es clock, w.heap[M]? = some (.map es clock) ∧ es.toList.map (fun e => (e.key, e.val)) = (numd LS 0).map (fun p => (lk p.1, Value.int .i64 (p.2 : Int)))

theorem LM.lt {w : World} {M : Nat} {LS : List (Nat × Nat)} (h : LM w M LS) : M < w.heap.size := by
  obtain ⟨es, c, h1, -⟩ := h
  exact (Array.getElem?_eq_some_iff.1 h1).1

theorem LM.kept {w w' : World} {M : Nat} {LS : List (Nat × Nat)} {S : Nat → Prop} (h : LM w M LS) (k : Kept S w w') (hS : S M) : LM w' M LS := by
  have hl := h.lt
  obtain ⟨es, c, h1, h2⟩ := h
  exact ⟨es, c, (k.block M hl hS).trans h1, h2⟩

theorem find_lists {w : World} (x : Nat × Nat) : ∀ (es : List MapEntry) (L : List (Nat × Nat)) (i n : Nat), es.map (fun e => (e.key, e.val)) = (numd L n).map (fun p => (lk p.1, Value.int .i64 (p.2 : Int))) →
    (¬ x ∈ L → (Instr.findAsking 80 (lk x) es i).run Try.prog w = .ok none w) ∧ (∀ j : Nat, L.Nodup → L[j]? = some x → (Instr.findAsking 80 (lk x) es i).run Try.prog w = .ok (some (i + j, .int .i64 ((n + j : Nat) : Int))) w)
  | [], L, i, n, h => by
    have e : L = [] := by
      cases L with
      | nil => rfl
      | cons _ _ => simp [numd] at h
    subst e
    exact ⟨fun _ => by simp [Instr.findAsking], fun j _ hj => by simp at hj⟩
  | e :: es, L, i, n, h => by
    cases L with
    | nil => simp [numd] at h
    | cons y L =>
      simp only [numd, List.map_cons, List.cons.injEq, Prod.mk.injEq] at h
      obtain ⟨⟨h1, h2⟩, h3⟩ := h
      have hc := lk_cmp (w := w) x y
      obtain ⟨ih1, ih2⟩ := find_lists (w := w) x es L (i + 1) (n + 1) h3
      refine ⟨fun hm => ?_, fun j hd hj => ?_⟩
      · have hne : decide (x = y) = false := by simp; exact fun e => hm (by rw [e]; exact List.mem_cons_self)
        rw [hne] at hc
        have := ih1 (fun hx => hm (List.mem_cons_of_mem _ hx))
        unfold Instr.findAsking
        simp [Op.equal, Op.maxDepth, h1, hc, this]
      · cases j with
        | zero =>
          have e1 : y = x := by simpa using hj
          have hd2 : decide (x = y) = true := by simp [e1]
          rw [hd2] at hc
          unfold Instr.findAsking
          simp [Op.equal, Op.maxDepth, h1, hc, h2]
        | succ j =>
          have hj2 : L[j]? = some x := by simpa using hj
          have hne : decide (x = y) = false := by
            simp
            intro e
            exact (List.nodup_cons.1 hd).1 (by rw [← e]; exact List.mem_of_getElem? hj2)
          rw [hne] at hc
          have := ih2 j (List.nodup_cons.1 hd).2 hj2
          rw [show i + 1 + j = i + (j + 1) from by omega, show n + 1 + j = n + (j + 1) from by omega] at this
          unfold Instr.findAsking
          simp [Op.equal, Op.maxDepth, h1, hc, this]

theorem lk_now (x y : Nat × Nat) (d : TypeDesc) : Instr.sameNow d (lk x) (lk y) = none := by cases d <;> rfl

theorem find_lkey {w : World} (x : Nat × Nat) (es : List MapEntry) (L : List (Nat × Nat)) (n : Nat) (h : es.map (fun e => (e.key, e.val)) = (numd L n).map (fun p => (lk p.1, Value.int .i64 (p.2 : Int)))) :
    (Instr.findKey 80 (lk x) es).run Try.prog w = (Instr.findAsking 80 (lk x) es 0).run Try.prog w := by
  unfold Instr.findKey
  cases es with
  | nil => simp [go_sem, Instr.findNow, Instr.findAsking]
  | cons e es =>
    cases L with
    | nil => simp [numd] at h
    | cons p L =>
      simp only [numd, List.map_cons, List.cons.injEq, Prod.mk.injEq] at h
      simp [go_sem, Instr.findNow, h.1.1, lk_now]

theorem check_lk {w : World} (x : Nat × Nat) (em : Bool) : (Instr.checkKey em 10000 80 (lk x)).run Try.prog w = .ok () w := by
  have : ∀ n, (Instr.checkKey em (n + 1 + 1) 80 (lk x)).run Try.prog w = .ok () w := fun n => by simp [go_sem, Instr.checkKey, lk]
  exact this 9998

theorem LM.hit {w : World} {M : Nat} {LS : List (Nat × Nat)} (h : LM w M LS) (hd : LS.Nodup) (x : Nat × Nat) {i : Nat} (hi : LS[i]? = some x) : (Instr.lookup 74 (.map (some M)) (lk x) true).run Try.prog w = .ok (.tuple #[.int .i64 (i : Int), .bool true]) w := by
  obtain ⟨es, c, h1, h2⟩ := h
  have hf := find_lkey (w := w) x es.toList LS 0 h2
  have hg := (find_lists (w := w) x es.toList LS 0 0 h2).2 i hd hi
  rw [Nat.zero_add] at hg
  rw [hg] at hf
  unfold Instr.lookup
  simp [run_underlying Try.underlying74, MapKept.run_getObj_map h1, check_lk, hf]

theorem LM.miss {w : World} {M : Nat} {LS : List (Nat × Nat)} (h : LM w M LS) (x : Nat × Nat) (hi : ¬ x ∈ LS) : (Instr.lookup 74 (.map (some M)) (lk x) true).run Try.prog w = .ok (.tuple #[.int .i64 0, .bool false]) w := by
  obtain ⟨es, c, h1, h2⟩ := h
  have hf := find_lkey (w := w) x es.toList LS 0 h2
  rw [(find_lists (w := w) x es.toList LS 0 0 h2).1 hi] at hf
  have hz : (zeroValue 3).run Try.prog w = .ok (.int .i64 0) w := by kernel_rfl
  unfold Instr.lookup
  simp [run_underlying Try.underlying74, MapKept.run_getObj_map h1, check_lk, hf, hz]

theorem LM.put {w : World} {M : Nat} {LS : List (Nat × Nat)} (h : LM w M LS) (x : Nat × Nat) (hi : ¬ x ∈ LS) : ∃ w', (Instr.mapUpdate 74 (.map (some M)) (lk x) (.int .i64 (LS.length : Int))).run Try.prog w = .ok () w' ∧ LM w' M (LS ++ [x]) ∧ w.grownBy w' (some M) := by
  obtain ⟨es, c, h1, h2⟩ := h
  have hf := find_lkey (w := w) x es.toList LS 0 h2
  rw [(find_lists (w := w) x es.toList LS 0 0 h2).1 hi] at hf
  refine ⟨ChangeMaps.setBlock w M (.map (es.push { key := lk x, val := .int .i64 (LS.length : Int), born := c }) (c + 1)), ?_, ?_, ?_⟩
  · unfold Instr.mapUpdate
    simp [run_underlying Try.underlying74, MapKept.run_getObj_map h1, check_lk, hf, MapKept.run_setObj_map _ h1, Result.andThen, ChangeMaps.setBlock]
  · refine ⟨_, _, heap_setBlock_same h1 _, ?_⟩
    rw [numd_app]
    simp [h2]
  · exact ⟨rfl, rfl, rfl, by simp [ChangeMaps.setBlock], fun i _ hi => heap_setBlock_other h1 _ (fun e => hi (by rw [e]))⟩

end Go.Proofs.Ytfgmgbkiebeeoaa

namespace Go.Proofs.Ytfgmgbkiebeeoaa
open Go.RowKit Go.Joins Go.MapKept Go.ChangeMaps

/-- The cells of lists. -/
def lvs (LS : List (Nat × Nat)) : List Value := LS.flatMap (fun x => [.int .i64 (x.1 : Int), .int .i64 (x.2 : Int)])

theorem lvs_app (LS : List (Nat × Nat)) (x : Nat × Nat) : lvs (LS ++ [x]) = lvs LS ++ [.int .i64 (x.1 : Int), .int .i64 (x.2 : Int)] := by simp [lvs]

/-- The lists of a ground and their numbers. -/
structure LN (w : World) (B1 G : Nat) (LS : List (Nat × Nat)) (lv : Value) (Mn : Nat) : Prop where
  c9 : w.cell? ⟨G, 9, none⟩ = some lv
  f9 : w.frozen? ⟨G, 9, none⟩ = false
  ow : w.ownsRow B1 80 2 lv LS.length (lvs LS)
  c10 : w.cell? ⟨G, 10, none⟩ = some (.map (some Mn))
  mp : LM w Mn LS
  nd : LS.Nodup
  ne : lv.ownBlock ≠ some G ∧ lv.ownBlock ≠ some Mn ∧ Mn ≠ G
  hv : B1 ≤ w.heap.size

theorem LN.kept {w w' : World} {B1 G : Nat} {LS : List (Nat × Nat)} {lv : Value} {Mn : Nat} {S : Nat → Prop} (h : LN w B1 G LS lv Mn) (k : Kept S w w') (hG : S G) (hM : S Mn) (hl : ∀ c, lv.ownBlock = some c → S c) : LN w' B1 G LS lv Mn := by
  have g1 := block_lt_of_cell h.c9
  exact ⟨(k.cell (p := ⟨G, 9, none⟩) g1 hG).trans h.c9, (k.frozen (p := ⟨G, 9, none⟩) g1 hG).trans h.f9, ownsRow_kept h.ow k hl, (k.cell (p := ⟨G, 10, none⟩) g1 hG).trans h.c10, h.mp.kept k hM, h.nd, h.ne, Nat.le_trans h.hv k.size⟩

/-- What listNumber leaves. -/
structure LQ (w w' : World) (B1 G : Nat) (LS : List (Nat × Nat)) (lv : Value) (Mn : Nat) (x : Nat × Nat) (i : Nat) (L2 : List (Nat × Nat)) (lv' : Value) : Prop where
  ln : LN w' B1 G (LS ++ L2) lv' Mn
  at_ : (LS ++ L2)[i]? = some x
  new : L2 = [] ∨ L2 = [x]
  kept : Kept (fun c => c ≠ G ∧ lv.ownBlock ≠ some c ∧ c ≠ Mn) w w'
  cell : ∀ j, j ≠ 9 → w'.cell? ⟨G, j, none⟩ = w.cell? ⟨G, j, none⟩
  froz : ∀ j, w'.frozen? ⟨G, j, none⟩ = w.frozen? ⟨G, j, none⟩
  blk : lv'.ownBlock = lv.ownBlock ∨ ∃ c, lv'.ownBlock = some c ∧ w.heap.size ≤ c

theorem Try.info80 : (Try.prog.info? 80).map (fun i => (i.zero, i.size, i.bytes)) = some (some (.agg #[.int .i64 0, .int .i64 0]), 2, 16) := by kernel_rfl

set_option maxHeartbeats 4000000 in
set_option maxRecDepth 100000 in
theorem list_old {w : World} {B1 G : Nat} {LS : List (Nat × Nat)} {lv : Value} {Mn : Nat} (h : LN w B1 G LS lv Mn) (x : Nat × Nat) (i : Nat) (hi : LS[i]? = some x) :
    Calls Try.prog 45 #[.pointer (some ⟨G, 0, none⟩), lk x] w fun e w' => e = .returned (.int .i64 (i : Int)) ∧ LQ w w' B1 G LS lv Mn x i [] lv := by
  have HX : Hid (∀ V, Kept (fun _ => True) w V → V.cell? ⟨G, 10, none⟩ = some (.map (some Mn)) ∧ (Instr.lookup 74 (.map (some Mn)) (.agg #[.int .i64 (x.1 : Int), .int .i64 (x.2 : Int)]) true).run Try.prog V = .ok (.tuple #[.int .i64 (i : Int), .bool true]) V) := fun V k => by
    have hv := h.kept k trivial trivial (fun _ _ => trivial)
    exact ⟨hv.c10, hv.mp.hit hv.nd x hi⟩
  have FIN : Hid (∀ V, Kept (fun _ => True) w V → LQ w V B1 G LS lv Mn x i [] lv) := fun V k => by
    have g1 := block_lt_of_cell h.c9
    exact ⟨by rw [List.append_nil]; exact h.kept k trivial trivial (fun _ _ => trivial), by rw [List.append_nil]; exact hi, .inl rfl, k.mono (fun _ _ _ => trivial), fun j _ => k.cell (p := ⟨G, j, none⟩) g1 trivial, fun j => k.frozen (p := ⟨G, j, none⟩) g1 trivial, .inl rfl⟩
  obtain ⟨V1, hV1⟩ : ∃ V, w.alloc (.cells #[.int .i64 (x.1 : Int), .int .i64 (x.2 : Int)] 80) = V := ⟨_, rfl⟩
  have k1 : Kept (fun _ => True) w V1 := by rw [← hV1]; exact Kept.alloc _ _ _
  have bx : Bx V1 w.heap.size [.int .i64 (x.1 : Int), .int .i64 (x.2 : Int)] := by rw [← hV1]; exact Bx.new _ _ _
  obtain ⟨u1, u2⟩ := HX.out V1 k1
  obtain ⟨u3, u4⟩ := HX.out V1.drew (k1.trans (Kept.drew _ _))
  have x0 := bx.cel 0 _ rfl
  have x1 := bx.cel 1 _ rfl
  have y0 := (bx.kept (Kept.drew (fun _ => True) _) trivial).cel 0 _ rfl
  have y1 := (bx.kept (Kept.drew (fun _ => True) _) trivial).cel 1 _ rfl
  have HV1 := hide hV1
  have HK1 := hide k1
  obtain ⟨s, hs⟩ : ∃ s, w.heap.size = s := ⟨_, rfl⟩
  rw [hs] at x0 x1 y0 y1
  unfold lk
  clear h hi k1 bx hV1 HX
  go_enter Try.func45, Try.ntmps45
  go_upto_region 1 with fail
  rw [HV1.out]
  go_region
  all_goals
    go_wp2_with fail
    go_ret
    exact ⟨rfl, FIN.out _ (HK1.out.trans (Kept.drew _ _))⟩

theorem ownsRow_slice {W : World} {B n sz : Nat} {e : TypeId} {v : Value} {xs : List Value} (h : W.ownsRow B e sz v n xs) : ∃ a c, v = .slice a n c := by
  rcases h.2 with ⟨e1, e2⟩ | ⟨g, cap, cur, e1, -⟩
  · exact ⟨none, 0, by rw [e1, e2]⟩
  · exact ⟨_, cap, e1⟩

set_option maxHeartbeats 4000000 in
set_option maxRecDepth 100000 in
theorem list_new {w : World} {B1 G : Nat} {LS : List (Nat × Nat)} {lv : Value} {Mn : Nat} (h : LN w B1 G LS lv Mn) (x : Nat × Nat) (hi : ¬ x ∈ LS) (hl : LS.length ≤ 10000000) :
    Calls Try.prog 45 #[.pointer (some ⟨G, 0, none⟩), lk x] w fun e w' => e = .returned (.int .i64 (LS.length : Int)) ∧ ∃ lv', LQ w w' B1 G LS lv Mn x LS.length [x] lv' := by
  obtain ⟨fa, fcp, rfl⟩ := ownsRow_slice h.ow
  obtain ⟨n, hn⟩ : ∃ n, LS.length = n := ⟨_, rfl⟩
  obtain ⟨lv, hlv⟩ : ∃ lv, Value.slice fa LS.length fcp = lv := ⟨_, rfl⟩
  have hG : G < w.heap.size := block_lt_of_cell h.c9
  obtain ⟨V1, hV1⟩ : ∃ V, w.alloc (.cells #[.int .i64 (x.1 : Int), .int .i64 (x.2 : Int)] 80) = V := ⟨_, rfl⟩
  have k1 : Kept (fun _ => True) w V1 := by rw [← hV1]; exact Kept.alloc _ _ _
  have z1 : V1.heap.size = w.heap.size + 1 := by rw [← hV1]; simp
  have bx : Bx V1 w.heap.size [.int .i64 (x.1 : Int), .int .i64 (x.2 : Int)] := by rw [← hV1]; exact Bx.new _ _ _
  have kd : ∀ V, Kept (fun _ => True) V V.drew := fun V => Kept.drew _ _
  have l1 := h.kept k1 trivial trivial (fun _ _ => trivial)
  have l2 := l1.kept (kd V1) trivial trivial (fun _ _ => trivial)
  have l3 := l2.kept (kd V1.drew) trivial trivial (fun _ _ => trivial)
  have b2 := bx.kept (kd V1) trivial
  have b3 := b2.kept (kd V1.drew) trivial
  obtain ⟨W2, hup, m2, gr⟩ := l3.mp.put x hi
  rw [hn] at hup
  have u1 : (Instr.lookup 74 (.map (some Mn)) (.agg #[.int .i64 (x.1 : Int), .int .i64 (x.2 : Int)]) true).run Try.prog V1 = .ok (.tuple #[.int .i64 0, .bool false]) V1 := l1.mp.miss x hi
  have u2 : (Instr.lookup 74 (.map (some Mn)) (.agg #[.int .i64 (x.1 : Int), .int .i64 (x.2 : Int)]) true).run Try.prog V1.drew = .ok (.tuple #[.int .i64 0, .bool false]) V1.drew := l2.mp.miss x hi
  have hup2 : (Instr.mapUpdate 74 (.map (some Mn)) (.agg #[.int .i64 (x.1 : Int), .int .i64 (x.2 : Int)]) (.int .i64 (n : Int))).run Try.prog V1.drew.drew = .ok () W2 := hup
  obtain ⟨n1, n2, n3⟩ := h.ne
  have k2 : Kept (fun c => c ≠ Mn) V1.drew.drew W2 := Kept.grown gr (fun c hc hx => hx (Option.some.inj hc).symm)
  have hMl := h.mp.lt
  have bl : ∀ c, (Value.slice fa LS.length fcp).ownBlock = some c → c < w.heap.size := fun c e => (World.ownsRow.lt h.ow c e).2
  have p9 : W2.cell? ⟨G, 9, none⟩ = some (.slice fa n fcp) := by rw [← hn]; exact (k2.cell (p := ⟨G, 9, none⟩) (by show G < V1.heap.size; omega) (fun e => n3 e.symm)).trans l3.c9
  have q9 : W2.frozen? ⟨G, 9, none⟩ = false := (k2.frozen (p := ⟨G, 9, none⟩) (by show G < V1.heap.size; omega) (fun e => n3 e.symm)).trans l3.f9
  have b4 : Bx W2 w.heap.size [.int .i64 (x.1 : Int), .int .i64 (x.2 : Int)] := b3.kept k2 (by omega)
  have o4 : W2.ownsRow B1 80 2 (.slice fa n fcp) n (lvs LS) := by
    rw [← hn]
    exact ownsRow_kept l3.ow k2 (fun c e e2 => n2 (by rw [e, e2]))
  have kw2 : Kept (fun c => c ≠ Mn) w W2 := ((k1.trans (kd V1)).trans (kd V1.drew)).mono (fun _ _ _ => trivial) |>.trans k2
  have z2 := kw2.size
  have ob : (Value.slice fa n fcp).ownBlock = (Value.slice fa LS.length fcp).ownBlock := by rw [hn]
  have HOW : Hid (∀ V, Kept (fun _ => True) W2 V → V.ownsRow B1 80 2 (.slice fa n fcp) n (lvs LS)) := fun V k => ownsRow_kept o4 k (fun _ _ => trivial)
  have HP : Hid (∀ V, Kept (fun c => (Value.slice fa n fcp).ownBlock ≠ some c) W2 V → V.cell? ⟨G, 9, none⟩ = some (.slice fa n fcp) ∧ V.frozen? ⟨G, 9, none⟩ = false ∧ V.cell? ⟨w.heap.size, 0, none⟩ = some (.int .i64 (x.1 : Int)) ∧ V.cell? ⟨w.heap.size, 1, none⟩ = some (.int .i64 (x.2 : Int))) := fun V k => by
    have hg2 := block_lt_of_cell p9
    have b5 := b4.kept k (fun e => by rw [ob] at e; have := bl _ e; omega)
    exact ⟨(k.cell (p := ⟨G, 9, none⟩) hg2 (by rw [ob]; exact n1)).trans p9, (k.frozen (p := ⟨G, 9, none⟩) hg2 (by rw [ob]; exact n1)).trans q9, b5.cel 0 _ rfl, b5.cel 1 _ rfl⟩
  have FIN : Hid (∀ g7 cp w7, w7.ownsRow B1 80 2 (.slice (some ⟨g7, 0, none⟩) (n + 1) cp) (n + 1) (lvs LS ++ [.int .i64 (x.1 : Int), .int .i64 (x.2 : Int)]) → (W2.alloc (.cells #[.int .i64 (x.1 : Int), .int .i64 (x.2 : Int)] 80)).drew.grownBy w7 (Value.slice fa n fcp).ownBlock → ((Value.slice fa n fcp).ownBlock = some g7 ∨ g7 = (W2.alloc (.cells #[.int .i64 (x.1 : Int), .int .i64 (x.2 : Int)] 80)).drew.heap.size) → LQ w (w7.setCell ⟨G, 9, none⟩ (.slice (some ⟨g7, 0, none⟩) (n + 1) cp)) B1 G LS (.slice fa LS.length fcp) Mn x LS.length [x] (.slice (some ⟨g7, 0, none⟩) (n + 1) cp)) := fun g7 cp w7 hO hG7 hat => by
    have ka : Kept (fun c => (Value.slice fa n fcp).ownBlock ≠ some c) W2 w7 := (((Kept.alloc (fun _ => True) W2 _).trans (Kept.drew _ _)).mono (fun _ _ _ => trivial)).trans (Kept.grown hG7 (fun c hc hx => hx hc))
    have zz : (W2.alloc (.cells #[.int .i64 (x.1 : Int), .int .i64 (x.2 : Int)] 80)).drew.heap.size = W2.heap.size + 1 := by simp
    have hat' : (Value.slice fa n fcp).ownBlock = some g7 ∨ W2.heap.size ≤ g7 := hat.imp id (fun e => by omega)
    have gG : g7 ≠ G := by
      rcases hat' with e | e
      · exact fun e2 => n1 (by rw [← ob, e, e2])
      · omega
    have gM : g7 ≠ Mn := by
      rcases hat' with e | e
      · exact fun e2 => n2 (by rw [← ob, e, e2])
      · omega
    have ks : Kept (fun c => c ≠ G) w7 (w7.setCell ⟨G, 9, none⟩ (.slice (some ⟨g7, 0, none⟩) (n + 1) cp)) := Kept.setCell _ _ _ _ (fun hx => hx rfl)
    obtain ⟨r1, r2, -, -⟩ := HP.out w7 ka
    have kGw : ∀ j, W2.cell? ⟨G, j, none⟩ = w.cell? ⟨G, j, none⟩ := fun j => kw2.cell (p := ⟨G, j, none⟩) hG (fun e => n3 e.symm)
    have kG7 : ∀ j, w7.cell? ⟨G, j, none⟩ = W2.cell? ⟨G, j, none⟩ := fun j => ka.cell (p := ⟨G, j, none⟩) (by show G < _; omega) (by rw [ob]; exact n1)
    have fGw : ∀ j, w7.frozen? ⟨G, j, none⟩ = w.frozen? ⟨G, j, none⟩ := fun j => (ka.frozen (p := ⟨G, j, none⟩) (by show G < _; omega) (by rw [ob]; exact n1)).trans (kw2.frozen (p := ⟨G, j, none⟩) hG (fun e => n3 e.symm))
    have c7 : ∀ j, j ≠ 9 → (w7.setCell ⟨G, 9, none⟩ (.slice (some ⟨g7, 0, none⟩) (n + 1) cp)).cell? ⟨G, j, none⟩ = w.cell? ⟨G, j, none⟩ := fun j hj => by
      rw [World.cell?_setCell_other _ _ _ _ (fun e => hj (congrArg Addr.off e).symm)]
      exact (kG7 j).trans (kGw j)
    have hle : (LS ++ [x]).length = n + 1 := by simp [hn]
    have z7 := ka.size
    refine ⟨⟨World.cell?_setCell_same _ _ _ r1, by rw [World.frozen?_setCell]; exact r2, ?_, (c7 10 (by decide)).trans h.c10, (m2.kept ka (by rw [ob]; exact n2)).kept ks n3, ?_, ⟨fun e => gG (Option.some.inj e), fun e => gM (Option.some.inj e), n3⟩, ?_⟩, by simp, .inr rfl, ?_, c7, fun j => by rw [World.frozen?_setCell]; exact fGw j, ?_⟩
    · rw [hle, lvs_app]
      exact ownsRow_kept hO ks (fun c e e2 => gG (by rw [← e2]; exact Option.some.inj e))
    · exact List.nodup_append.2 ⟨h.nd, by simp, fun y hy z hz => by rw [List.mem_singleton] at hz; rw [hz]; exact fun e => hi (by rw [← e]; exact hy)⟩
    · have := h.hv
      have := ks.size
      omega
    · exact ((kw2.mono (fun c _ hc => hc.2.2)).trans (ka.mono (fun c _ hc => by rw [ob]; exact hc.2.1))).trans (ks.mono (fun c _ hc => hc.1))
    · rcases hat' with e | e
      · exact .inl (by rw [← ob]; exact e.symm)
      · exact .inr ⟨g7, rfl, by omega⟩
  have x0 := bx.cel 0 _ rfl
  have x1 := bx.cel 1 _ rfl
  have y0 := b2.cel 0 _ rfl
  have y1 := b2.cel 1 _ rfl
  have d10 := l1.c10
  have e10 := l2.c10
  have e9 : V1.drew.cell? ⟨G, 9, none⟩ = some (.slice fa n fcp) := by rw [← hn]; exact l2.c9
  have f10 := l3.c10
  have w0 := b3.cel 0 _ rfl
  have w1 := b3.cel 1 _ rfl
  have HV1 := hide hV1
  have HN : Hid (n + 1 ≤ maxLen ∧ (n + 1) * 16 ≤ 140737488355328) := by unfold Hid maxLen; omega
  have HB : Hid (B1 ≤ W2.heap.size) := Nat.le_trans h.hv z2
  have HNN := hide hn
  rw [hn]
  obtain ⟨s, hs⟩ : ∃ s, w.heap.size = s := ⟨_, rfl⟩
  rw [hs] at x0 x1 y0 y1 w0 w1 HP
  unfold lk
  clear h hi k1 bx hV1 l1 l2 l3 b2 b3 kd hup m2 gr k2 b4 o4 kw2 z1 z2 hG n1 n2 n3 hMl bl ob p9 q9 hl hn hlv lv
  go_enter Try.func45, Try.ntmps45
  go_upto_region 1 with fail
  rw [HV1.out]
  go_region
  all_goals
    clear u1 u2 x0 x1 d10
    go_upto_region 4 with fail
    go_region
    all_goals
      clear hup2 f10 w0 w1 e10 e9 y0 y1
      obtain ⟨a1, a2, a3, a4⟩ := HP.out W2.drew ((Kept.drew (fun _ => True) W2).mono (fun _ _ _ => trivial))
      obtain ⟨a5, a6, a7, a8⟩ := HP.out (W2.alloc (.cells #[.int .i64 (x.1 : Int), .int .i64 (x.2 : Int)] 80)) ((Kept.alloc (fun _ => True) W2 _).mono (fun _ _ _ => trivial))
      go_upto_region 5 with fail
      go_region_law (first
        | (refine ur_draw (by rfl) _ _ 73 80 (by rfl) Try.info80 Try.underlying73 rfl (by decide) B1 _ (.slice fa n fcp) n (lvs LS) [.int .i64 (x.1 : Int), .int .i64 (x.2 : Int)] _ 1 (by rfl) (HOW.out _ ((Kept.alloc (fun _ => True) W2 _).trans (Kept.drew _ _))) (by rfl) (heap_new_dr _ _) (Nat.le_trans HB.out (by simp)) rfl (by simp [Value.oneCell']) HN.out.1 HN.out.2 ?_; intro g7 cp w7 hO7 hG7 hat7; have HE7 := hide (FIN.out _ _ _ hO7 hG7 hat7); obtain ⟨t1, t2, -, -⟩ := HP.out w7 ((((Kept.alloc (fun _ => True) W2 _).trans (Kept.drew _ _)).mono (fun _ _ _ => trivial)).trans (Kept.grown hG7 (fun c hc hx => hx hc))); clear hO7 hG7 hat7)
        | fail)
      all_goals
        go_wp2_with fail
        go_ret
        have hfin := HE7.out
        rw [HNN.out] at hfin
        exact ⟨rfl, _, hfin⟩

theorem i_list {w : World} {B1 G : Nat} {LS : List (Nat × Nat)} {lv : Value} {Mn : Nat} (h : LN w B1 G LS lv Mn) (x : Nat × Nat) (hl : LS.length ≤ 10000000) :
    Calls Try.prog 45 #[.pointer (some ⟨G, 0, none⟩), lk x] w fun e w' => ∃ (i : Nat) (L2 : List (Nat × Nat)) (lv' : Value), e = .returned (.int .i64 (i : Int)) ∧ LQ w w' B1 G LS lv Mn x i L2 lv' := by
  by_cases hi : x ∈ LS
  · obtain ⟨i, hi⟩ := List.getElem?_of_mem hi
    refine (list_old h x i hi).mono ?_
    rintro e w' ⟨rfl, q⟩
    exact ⟨i, [], lv, rfl, q⟩
  · refine (list_new h x hi hl).mono ?_
    rintro e w' ⟨rfl, lv', q⟩
    exact ⟨_, [x], lv', rfl, q⟩

end Go.Proofs.Ytfgmgbkiebeeoaa
