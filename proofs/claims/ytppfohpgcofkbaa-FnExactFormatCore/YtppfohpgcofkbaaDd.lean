import Derived.Test.YtppfohpgcofkbaaDc
namespace Go.Proofs.Ytppfohpgcofkbaa
open Go.RowKit Go.Joins

theorem preL_app : ∀ (A B : List Nd) (d : Nat), preL (A ++ B) d = preL A d ++ preL B d
  | [], B, d => by rw [preL_nil]; rfl
  | x :: A, B, d => by rw [List.cons_append, preL_cons, preL_cons, preL_app A B d]; simp

/-- What a term adds to the program's count. -/
def Tm.nw1 : Tm → Nat
  | .nil => 0
  | .nd h ks al _ => ks.len + al.len + (if h.k = 6 ∨ h.k = 7 then h.ns.length else 0) + al.an

def Tm.cw : Tm → Nat
  | .nil => 0
  | .nd h ks al r => (ks.len + al.len + (if h.k = 6 ∨ h.k = 7 then h.ns.length else 0) + al.an) + ks.cw + al.cw + r.cw

/-- The first term is as its kind asks. -/
def Tm.top : Tm → Prop
  | .nil => True
  | .nd h ks al _ => shp h ks.len al

theorem cw_le : ∀ t : Tm, t.len + t.cw ≤ t.cnt
  | .nil => Nat.le_refl _
  | .nd h ks al r => by
    have h1 := cw_le ks
    have h2 := cw_le al
    have h3 := cw_le r
    simp only [Tm.len, Tm.cw, Tm.cnt]
    split <;> omega

theorem cw_eq : ∀ t : Tm, t.good → t.len + t.cw = t.cnt
  | .nil, _ => rfl
  | .nd h ks al r, ⟨g1, g2, g3, g4⟩ => by
    have h1 := cw_eq ks g2
    have h2 := cw_eq al g3
    have h3 := cw_eq r g4
    simp only [Tm.len, Tm.cw, Tm.cnt]
    split
    · omega
    · rename_i hk
      have h4 : h.ns = [] := by
        rcases g1.2.2.1 with e | e | e
        · exact absurd (.inl e) hk
        · exact absurd (.inr e) hk
        · exact e
      rw [h4]
      simp only [List.length_nil]
      omega

/-- What is known of the terms that are told of a row. -/
structure PF (L : List (Nat × Nd)) (t : Tm) (d sz : Nat) : Prop where
  sum : (L.map (fun e => (rdK e.2.x).nw1)).sum = t.cw
  dep1 : d + t.dep ≤ 1001 → ∀ e ∈ L, e.1 ≤ 1000
  dep2 : d ≤ 1001 → (∀ e ∈ L, e.1 ≤ 1000) → d + t.dep ≤ 1001
  good : (∀ e ∈ L, (rdK e.2.x).top) ↔ t.good
  len : L.length ≤ sz

theorem PF.nil (d sz : Nat) : PF [] .nil d sz := ⟨rfl, fun _ _ he => absurd he List.not_mem_nil, fun h _ => h, ⟨fun _ => trivial, fun _ _ he => absurd he List.not_mem_nil⟩, Nat.zero_le _⟩

theorem PF.node {A B R : List (Nat × Nd)} {h h' : Hd} {ks al r : Tm} {d s1 s2 s3 sz : Nat} {n : Nd} (hA : PF A ks (d + 1) s1) (hB : PF B al (d + 1) s2) (hR : PF R r d s3) (hn : rdK n.x = .nd h' ks al .nil) (e1 : h'.k = h.k) (e2 : h'.nm = h.nm) (e3 : h'.mn = h.mn) (e4 : h'.lm = h.lm) (e5 : h'.ns = h.ns) (hs : 1 + s1 + s2 + s3 ≤ sz) :
    PF ((d, n) :: ((A ++ B) ++ R)) (.nd h ks al r) d sz := by
  refine ⟨?_, fun hd e he => ?_, fun hd he => ?_, ?_, ?_⟩
  · rw [List.map_cons, List.map_append, List.map_append, List.sum_cons, List.sum_append, List.sum_append, hA.sum, hB.sum, hR.sum, hn]
    simp only [Tm.nw1, Tm.cw, e1, e5]
    omega
  · simp only [Tm.dep] at hd
    rcases List.mem_cons.1 he with rfl | he
    · show d ≤ 1000
      omega
    · rcases List.mem_append.1 he with he | he
      · rcases List.mem_append.1 he with he | he
        · exact hA.dep1 (by omega) e he
        · exact hB.dep1 (by omega) e he
      · exact hR.dep1 (by omega) e he
  · have h0 : d ≤ 1000 := he (d, n) List.mem_cons_self
    have h1 := hA.dep2 (by omega) (fun e h => he e (List.mem_cons_of_mem _ (List.mem_append_left _ (List.mem_append_left _ h))))
    have h2 := hB.dep2 (by omega) (fun e h => he e (List.mem_cons_of_mem _ (List.mem_append_left _ (List.mem_append_right _ h))))
    have h3 := hR.dep2 hd (fun e h => he e (List.mem_cons_of_mem _ (List.mem_append_right _ h)))
    simp only [Tm.dep]
    omega
  · have ht : (rdK n.x).top ↔ shp h ks.len al := by
      rw [hn]
      exact shp_head h' h _ _ e1 e2 e3 e4 e5
    simp only [Tm.good]
    rw [← hA.good, ← hB.good, ← hR.good, ← ht]
    constructor
    · intro h
      exact ⟨h (d, n) List.mem_cons_self, fun e he => h e (List.mem_cons_of_mem _ (List.mem_append_left _ (List.mem_append_left _ he))), fun e he => h e (List.mem_cons_of_mem _ (List.mem_append_left _ (List.mem_append_right _ he))), fun e he => h e (List.mem_cons_of_mem _ (List.mem_append_right _ he))⟩
    · rintro ⟨h1, h2, h3, h4⟩ e he
      rcases List.mem_cons.1 he with rfl | he
      · exact h1
      · rcases List.mem_append.1 he with he | he
        · rcases List.mem_append.1 he with he | he
          · exact h2 e he
          · exact h3 e he
        · exact h4 e he
  · have := hA.len
    have := hB.len
    have := hR.len
    simp only [List.length_cons, List.length_append]
    omega

theorem pre_facts {W : World} {S : Nat → Prop} : ∀ (m : Nat), (∀ (F : Fo) (n b o d : Nat), F.size ≤ m → Fit E F (rep (E 3) n) → F.Subs W S → PF (preL (itK b o F) d) (rdK F) d F.size) ∧ (∀ (F : Fo) (n b o d : Nat), F.size ≤ m → Fit E F (rep (E 2) n) → F.Subs W S → PF (preL (itA b o F) d) (rdA F) d F.size) := by
  have hat : ∀ (m : Nat), (∀ (F : Fo) (n b o d : Nat), F.size ≤ m → Fit E F (rep (E 3) n) → F.Subs W S → PF (preL (itK b o F) d) (rdK F) d F.size) ∧ (∀ (F : Fo) (n b o d : Nat), F.size ≤ m → Fit E F (rep (E 2) n) → F.Subs W S → PF (preL (itA b o F) d) (rdA F) d F.size) →
      ∀ (x : Fo) (d : Nat) (b o : Nat), x.size ≤ m + 1 → Fit E x (E 3) → x.Subs W S → ∃ A B, preL (Nd.kids ⟨b, o, x⟩) d = A ++ B ∧ ∃ (h : Hd) (ks al : Tm) (s1 s2 : Nat), rdK x = .nd h ks al .nil ∧ (∀ q, rdK (x.app q) = .nd h ks al (rdK q)) ∧ h.con = ⟨#[]⟩ ∧ h.cs = [] ∧ PF A ks d s1 ∧ PF B al d s2 ∧ s1 + s2 + 1 ≤ x.size := by
    intro m ih x d b o hm hx hs
    obtain ⟨k, nm, mn, la, ln, lc, lk, na, nn, nc, nk, ka, kn, kc, kk, aa, an, ac, ak, rfl, -, -, -, -, h5, h6⟩ := core_open hx
    obtain ⟨-, -, hs5, hs6, -⟩ := hs
    simp only [Fo.size] at hm
    refine ⟨preL (atK ka kk) d, preL (atA aa ak) d, ?_, ⟨⟨#[]⟩, [], k, nm, mn, rdU lk, rdS nk⟩, rdK kk, rdA ak, kk.size, ak.size, by rw [rdK_nd, rdK_nil], fun q => by simp only [Fo.app]; rw [rdK_nd], rfl, rfl, ?_, ?_, by simp only [Fo.size]; omega⟩
    · show preL (atK ka kk ++ atA aa ak) d = _
      exact preL_app _ _ _
    · by_cases hl : 0 < kk.len
      · obtain ⟨b', o', rfl, -, -, hsk⟩ := hs5.2.2 hl
        exact ih.1 kk kn b' o' d (by omega) h5 hsk
      · have e := Fo.len_zero hl
        subst e
        have e2 : atK ka .nil = [] := by cases ka <;> simp [atK, itK]
        rw [e2, preL_nil, rdK_nil]
        exact PF.nil _ _
    · by_cases hl : 0 < ak.len
      · obtain ⟨b', o', rfl, -, -, hsk⟩ := hs6.2.2 hl
        exact ih.2 ak an b' o' d (by omega) h6 hsk
      · have e := Fo.len_zero hl
        subst e
        have e2 : atA aa .nil = [] := by cases aa <;> simp [atA, itA]
        rw [e2, preL_nil, rdA_nil]
        exact PF.nil _ _
  intro m
  induction m with
  | zero =>
    refine ⟨fun F n b o d h _ _ => ?_, fun F n b o d h _ _ => ?_⟩
    · cases F with
      | nil => simp only [itK, preL_nil, rdK_nil]; exact PF.nil _ _
      | v _ _ => simp [Fo.size] at h
      | s _ _ _ _ _ => simp [Fo.size] at h
    · cases F with
      | nil => simp only [itA, preL_nil, rdA_nil]; exact PF.nil _ _
      | v _ _ => simp [Fo.size] at h
      | s _ _ _ _ _ => simp [Fo.size] at h
  | succ m ih =>
    refine ⟨fun F n b o d hm hf hs => ?_, fun F n b o d hm hf hs => ?_⟩
    · cases n with
      | zero => rw [fit_nil hf]; simp only [itK, preL_nil, rdK_nil]; exact PF.nil _ _
      | succ n =>
        obtain ⟨x, q, rfl, hx, hq, hl⟩ := Fit.split (fs := E 3) (gs := rep (E 3) n) hf
        rw [Fo.app_size] at hm
        have hxl : x.len ≤ x.size := x.len_le
        have hl7 : (E 3).length = 7 := rfl
        obtain ⟨A, B, hAB, h, ks, al, s1, s2, e1, e2, -, -, hA, hB, hsz⟩ := hat m ih x (d + 1) b o (by omega) hx hs.left
        have hR := ih.1 q n b (o + 7) d (by omega) hq hs.right
        have hit : itK b o (x.app q) = ⟨b, o, x⟩ :: itK b (o + 7) q := by
          obtain ⟨k, nm, mn, la, ln, lc, lk, na, nn, nc, nk, ka, kn, kc, kk, aa, an, ac, ak, rfl, -⟩ := core_open hx
          simp only [Fo.app, itK]
        rw [hit, preL_cons, hAB, e2]
        exact PF.node hA hB hR e1 rfl rfl rfl rfl rfl (by rw [Fo.app_size]; omega)
    · cases n with
      | zero => rw [fit_nil hf]; simp only [itA, preL_nil, rdA_nil]; exact PF.nil _ _
      | succ n =>
        obtain ⟨x, q, rfl, hx, hq, hl⟩ := Fit.split (fs := E 2) (gs := rep (E 2) n) hf
        rw [Fo.app_size] at hm
        obtain ⟨con, ca, cn, cc, ck, y, rfl, -, h1, hy⟩ := alt_open hx
        simp only [Fo.size] at hm
        obtain ⟨A, B, hAB, h, ks, al, s1, s2, e1, e2, -, -, hA, hB, hsz⟩ := hat m ih y (d + 1) b (o + 2) (by omega) hy hs.left.2
        have hR := ih.2 q n b (o + 9) d (by omega) hq hs.right
        have hit : itA b o ((Fo.v (.string con) (.s ca cn cc ck y)).app q) = ⟨b, o + 2, y⟩ :: itA b (o + 9) q ∧ ∃ h2 : Hd, rdA ((Fo.v (.string con) (.s ca cn cc ck y)).app q) = .nd h2 ks al (rdA q) ∧ h.k = h2.k ∧ h.nm = h2.nm ∧ h.mn = h2.mn ∧ h.lm = h2.lm ∧ h.ns = h2.ns := by
          obtain ⟨k, nm, mn, la, ln, lc, lk, na, nn, nc, nk, ka, kn, kc, kk, aa, an, ac, ak, rfl, -⟩ := core_open hy
          rw [rdK_nd, rdK_nil] at e1
          obtain ⟨rfl, rfl, rfl, -⟩ := Tm.nd.inj e1
          simp only [Fo.app, itA]
          rw [rdA_nd]
          exact ⟨trivial, _, rfl, rfl, rfl, rfl, rfl, rfl⟩
        obtain ⟨hit1, h2, hit2, f1, f2, f3, f4, f5⟩ := hit
        rw [hit1, preL_cons, hAB, hit2]
        exact PF.node hA hB hR e1 f1 f2 f3 f4 f5 (by rw [Fo.app_size]; simp only [Fo.size]; omega)

/-- The same of one term. -/
theorem pre_one {W : World} {S : Nat → Prop} {n : Nd} (h : n.Ok W S) : PF (preL [n] 1) (rdK n.x) 1 n.x.size := by
  have h1 := (pre_facts (W := W) (S := S) n.x.size).1 n.x 1 n.b n.o 1 (Nat.le_refl _) (by show Fit E n.x (E 3 ++ []); rw [List.append_nil]; exact h.fit) h.subs
  have e : itK n.b n.o n.x = [n] := by
    obtain ⟨b, o, x⟩ := n
    obtain ⟨k, nm, mn, la, ln, lc, lk, na, nn, nc, nk, ka, kn, kc, kk, aa, an, ac, ak, rfl, -⟩ := core_open h.fit
    simp only [itK]
  rw [e] at h1
  exact h1

/-- Every term that is told lies as it should. -/
theorem pre_ok {W : World} {S : Nat → Prop} {M : Nat} (L : List Nd) (d : Nat) : (∀ n ∈ L, n.Ok W S ∧ n.x.size ≤ M) → ∀ e ∈ preL L d, e.2.Ok W S ∧ e.2.x.size ≤ M := by
  induction L, d using preL.induct with
  | case1 d => intro _ e he; rw [preL_nil] at he; exact absurd he List.not_mem_nil
  | case2 x xs d ih1 ih2 =>
    intro hL e he
    have hx := hL x List.mem_cons_self
    rw [preL_cons] at he
    rcases List.mem_cons.1 he with rfl | he
    · exact hx
    · rcases List.mem_append.1 he with he | he
      · refine ih1 (fun n hn => ⟨x.kids_ok hx.1 n hn, ?_⟩) e he
        rcases x.kids_sz with h | h
        · rw [h] at hn; exact absurd hn List.not_mem_nil
        · have := nd_le hn
          have := hx.2
          omega
      · exact ih2 (fun n hn => hL n (List.mem_cons_of_mem _ hn)) e he

end Go.Proofs.Ytppfohpgcofkbaa
