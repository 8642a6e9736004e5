import Derived.Test.YtfgmgbkiebeeoaaXl
import Derived.Test.YtfgmgbkiebeeoaaVg
namespace Go.Proofs.Ytfgmgbkiebeeoaa
open Go.RowKit Go.Joins

theorem psum_cons (s : Nat → Nat) (f : Nat) : ∀ n, psum s f (n + 1) = s f + psum s (f + 1) n
  | 0 => by simp [psum]
  | n + 1 => by
    have := psum_cons s f n
    rw [psum, this, psum, show f + (n + 1) = f + 1 + n from by omega]
    omega

theorem psum_list (s : Nat → Nat) : ∀ (L : List Nat) (f : Nat), (∀ j v, L[j]? = some v → s (f + j) = v) → psum s f L.length = L.sum
  | [], _, _ => rfl
  | x :: L, f, h => by
    rw [List.length_cons, psum_cons, List.sum_cons, psum_list s L (f + 1) (fun j v hj => by rw [show f + 1 + j = f + (j + 1) from by omega]; exact h (j + 1) v (by simpa using hj)), show s f = x from h 0 x rfl]

/-- What is measured. -/
def grF (LS PQ : List (Nat × Nat)) (ND : List Nd) : Gr where
  nl := LS.length
  nt := ND.length
  fst := fun l => (LS.getD l (0, 0)).1
  cnt := fun l => (LS.getD l (0, 0)).2
  pl := fun k => (PQ.getD k (0, 0)).1
  ql := fun k => (PQ.getD k (0, 0)).2
  sT := fun k => match ND[k]? with
    | some d => tcK d.x
    | none => 0

theorem getD_some {α : Type} {L : List α} {i : Nat} {x d : α} (h : L[i]? = some x) : L.getD i d = x := by simp [List.getD, h]

section
variable {O : Nat → Nat} {W A7 w : World} {lo G wb M0 : Nat} {KK AA : List (Nat × Nat)} {KR AR : List Fo} {mk sk ma sa : Value} {tk ta tot : Nat} {LS : List (Nat × Nat)} {lv nv : Value} {PQ : List (Nat × Nat)}

theorem sT_at {LS PQ : List (Nat × Nat)} {ND : List Nd} {k : Nat} {d : Nd} (h : ND[k]? = some d) : (grF LS PQ ND).sT k = tcK d.x := by simp [grF, h]

theorem flat_get {α β : Type} (f : α → List β) : ∀ (L : List α) (i j : Nat) (x : α) (d : β), L[i]? = some x → (f x)[j]? = some d → (L.flatMap f)[((L.take i).map (fun x => (f x).length)).sum + j]? = some d
  | [], i, j, x, d, h, _ => by simp at h
  | y :: L, 0, j, x, d, h, h2 => by
    have e : y = x := by simpa using h
    subst e
    simp only [List.take_zero, List.map_nil, List.sum_nil, Nat.zero_add, List.flatMap_cons]
    exact get_app h2
  | y :: L, i + 1, j, x, d, h, h2 => by
    have ih := flat_get f L i j x d (by simpa using h) h2
    simp only [List.take_succ_cons, List.map_cons, List.sum_cons, List.flatMap_cons]
    rw [List.getElem?_append_right (by omega), show (f y).length + ((L.take i).map (fun x => (f x).length)).sum + j - (f y).length = ((L.take i).map (fun x => (f x).length)).sum + j from by omega]
    exact ih

theorem GI.putK (gi : GI O A7 (SB A7 lo G wb) KK AA KR AR [] [] [] 0 tot) {i j : Nat} {e : Nat × Nat} {r : Fo} {d : Nd} (h1 : KK[i]? = some e) (h2 : KR[i]? = some r) (h3 : (itK e.1 (O e.1) r)[j]? = some d) : (ndK O KK KR)[K.off KK i + j]? = some d := by
  have := flat_get (fun p : (Nat × Nat) × Fo => itK p.1.1 (O p.1.1) p.2) (KK.zip KR) i j (e, r) d (zip_get h1 h2) h3
  rw [sum_zip (fun x => (itK x.1.1 (O x.1.1) x.2).length) KK KR i gi.lk (fun k a b e1 e2 => gi.lenK e1 e2)] at this
  exact this
theorem GI.putA (gi : GI O A7 (SB A7 lo G wb) KK AA KR AR [] [] [] 0 tot) {i j : Nat} {e : Nat × Nat} {r : Fo} {d : Nd} (h1 : AA[i]? = some e) (h2 : AR[i]? = some r) (h3 : (itA e.1 (O e.1) r)[j]? = some d) : (ndK O KK KR ++ ndA O AA AR)[K.off KK KK.length + A.off AA i + j]? = some d := by
  have := flat_get (fun p : (Nat × Nat) × Fo => itA p.1.1 (O p.1.1) p.2) (AA.zip AR) i j (e, r) d (zip_get h1 h2) h3
  rw [sum_zip (fun x => (itA x.1.1 (O x.1.1) x.2).length) AA AR i gi.la (fun k a b e1 e2 => gi.lenA e1 e2)] at this
  rw [← gi.numK, List.getElem?_append_right (by omega), show (ndK O KK KR).length + A.off AA i + j - (ndK O KK KR).length = A.off AA i + j from by omega]
  exact this

/-- A list of kids is as large as its row. -/
theorem GI.sumK (gi : GI O A7 (SB A7 lo G wb) KK AA KR AR [] [] [] 0 tot) (LS PQ : List (Nat × Nat)) {i : Nat} {e : Nat × Nat} {r : Fo} (h1 : KK[i]? = some e) (h2 : KR[i]? = some r) : psum (grF LS PQ (ndK O KK KR ++ ndA O AA AR)).sT (K.off KK i) e.2 = tcK r := by
  obtain ⟨p1, p2, -, -⟩ := itK_pure O e.1 e.2 (O e.1) r (gi.fk i e r h1 h2).1
  have hl := gi.lenK h1 h2
  have hp := psum_list (grF LS PQ (ndK O KK KR ++ ndA O AA AR)).sT ((itK e.1 (O e.1) r).map (fun d => tcK d.x)) (K.off KK i) (fun j v hv => by
    rw [List.getElem?_map] at hv
    cases hd : (itK e.1 (O e.1) r)[j]? with
    | none => rw [hd] at hv; cases hv
    | some d =>
      rw [hd] at hv
      rw [← Option.some.inj hv]
      exact sT_at (get_app (gi.putK h1 h2 hd)))
  rw [List.length_map, hl, p2] at hp
  exact hp
theorem GI.sumA (gi : GI O A7 (SB A7 lo G wb) KK AA KR AR [] [] [] 0 tot) (LS PQ : List (Nat × Nat)) {i : Nat} {e : Nat × Nat} {r : Fo} (h1 : AA[i]? = some e) (h2 : AR[i]? = some r) : psum (grF LS PQ (ndK O KK KR ++ ndA O AA AR)).sT (K.off KK KK.length + A.off AA i) e.2 = tcA r := by
  obtain ⟨p1, p2, -, -⟩ := itA_pure O e.1 e.2 (O e.1) r (gi.fa i e r h1 h2).1
  have hl := gi.lenA h1 h2
  have hp := psum_list (grF LS PQ (ndK O KK KR ++ ndA O AA AR)).sT ((itA e.1 (O e.1) r).map (fun d => tcK d.x)) (K.off KK KK.length + A.off AA i) (fun j v hv => by
    rw [List.getElem?_map] at hv
    cases hd : (itA e.1 (O e.1) r)[j]? with
    | none => rw [hd] at hv; cases hv
    | some d =>
      rw [hd] at hv
      rw [← Option.some.inj hv]
      exact sT_at (gi.putA h1 h2 hd))
  rw [List.length_map, hl, p2] at hp
  exact hp

theorem row_ex {KK : List (Nat × Nat)} {KR : List Fo} (h : KR.length = KK.length) {i : Nat} {e : Nat × Nat} (h1 : KK[i]? = some e) : ∃ r, KR[i]? = some r := ⟨_, List.getElem?_eq_getElem (by rw [h]; exact (List.getElem?_eq_some_iff.1 h1).1)⟩

theorem fst_inj {KK : List (Nat × Nat)} (h : (KK.map Prod.fst).Nodup) {i j : Nat} {e f : Nat × Nat} (h1 : KK[i]? = some e) (h2 : KK[j]? = some f) (he : e.1 = f.1) : i = j := by
  refine (List.getElem?_inj (l := KK.map Prod.fst) (by rw [List.length_map]; exact (List.getElem?_eq_some_iff.1 h1).1) h).1 ?_
  rw [List.getElem?_map, List.getElem?_map, h1, h2]
  simp [he]

theorem kx_sum (gi : GI O A7 (SB A7 lo G wb) KK AA KR AR [] [] [] 0 tot) (ht : tot ≤ 4000000) (LS PQ : List (Nat × Nat)) {d : Nd} (hd : d ∈ ndK O KK KR ++ ndA O AA AR) {x : Nat × Nat} (hx : KX O KK (kA d.x) (kN d.x) x) : psum (grF LS PQ (ndK O KK KR ++ ndA O AA AR)).sT x.1 x.2 = tcK (kF d.x) := by
  have hf := (gi.ok d hd).1.fit
  have hdn : Done O KK KR AA AR d.x := by
    rcases gi.pd d hd with e | e | e
    · cases e
    · cases e
    · exact e
  rcases hx with ⟨h0, rfl⟩ | ⟨k, b, h1, h2, h3, rfl⟩
  · obtain ⟨kd, nm, mn, la, ln, lc, lk, na, nn, nc, nk, ka, kn, kc, kk, aa, an, ac, ak, e, -, -, -, -, f5, -⟩ := core_open hf
    rw [e] at h0 ⊢
    simp only [kN] at h0
    subst h0
    rw [show kF _ = kk from rfl, fit_nil f5, tcK_nil]
    rfl
  · obtain ⟨i, b', g1, g2, g3⟩ := hdn.k h3
    have eb : b = b' := by rw [h1] at g1; injection g1 with g1; injection g1
    have ei := fst_inj (gi.bdd ht).nk h2 g2 eb
    subst ei
    have hs := gi.sumK LS PQ h2 g3
    exact hs
theorem ax_sum (gi : GI O A7 (SB A7 lo G wb) KK AA KR AR [] [] [] 0 tot) (ht : tot ≤ 4000000) (LS PQ : List (Nat × Nat)) {d : Nd} (hd : d ∈ ndK O KK KR ++ ndA O AA AR) {x : Nat × Nat} (hx : AX O KK AA (aA d.x) (aN d.x) x) : psum (grF LS PQ (ndK O KK KR ++ ndA O AA AR)).sT x.1 x.2 = tcA (aF d.x) := by
  have hf := (gi.ok d hd).1.fit
  have hdn : Done O KK KR AA AR d.x := by
    rcases gi.pd d hd with e | e | e
    · cases e
    · cases e
    · exact e
  rcases hx with ⟨h0, rfl⟩ | ⟨k, b, h1, h2, h3, rfl⟩
  · obtain ⟨kd, nm, mn, la, ln, lc, lk, na, nn, nc, nk, ka, kn, kc, kk, aa, an, ac, ak, e, -, -, -, -, -, f6⟩ := core_open hf
    rw [e] at h0 ⊢
    simp only [aN] at h0
    subst h0
    rw [show aF _ = ak from rfl, fit_nil f6, tcA_nil]
    rfl
  · obtain ⟨i, b', g1, g2, g3⟩ := hdn.a h3
    have eb : b = b' := by rw [h1] at g1; injection g1 with g1; injection g1
    have ei := fst_inj (gi.bdd ht).na h2 g2 eb
    subst ei
    have hs := gi.sumA LS PQ h2 g3
    exact hs

theorem sL_at {LS PQ : List (Nat × Nat)} {ND : List Nd} {l : Nat} {x : Nat × Nat} (h : LS[l]? = some x) : (grF LS PQ ND).sL l = psum (grF LS PQ ND).sT x.1 x.2 := by
  unfold Gr.sL
  simp only [grF, getD_some h]

theorem lso_le (gi : GI O A7 (SB A7 lo G wb) KK AA KR AR [] [] [] 0 tot) (LS PQ : List (Nat × Nat)) {x : Nat × Nat} (hx : LSo KK AA x) : psum (grF LS PQ (ndK O KK KR ++ ndA O AA AR)).sT x.1 x.2 ≤ tot ∧ x.1 + x.2 ≤ (ndK O KK KR ++ ndA O AA AR).length := by
  rw [List.length_append, gi.numK, gi.numA]
  rcases hx with rfl | ⟨k, b, n, h1, rfl⟩ | ⟨k, b, n, h1, rfl⟩
  · exact ⟨Nat.zero_le _, by simp⟩
  · obtain ⟨r, hr⟩ := row_ex gi.lk h1
    refine ⟨by rw [gi.sumK LS PQ h1 hr]; exact gi.tb.1 r (List.mem_of_getElem? hr), ?_⟩
    have := K.off_lt h1 (List.getElem?_eq_some_iff.1 h1).1
    dsimp only at this ⊢
    omega
  · obtain ⟨r, hr⟩ := row_ex gi.la h1
    refine ⟨by rw [gi.sumA LS PQ h1 hr]; exact gi.tb.2 r (List.mem_of_getElem? hr), ?_⟩
    have := A.off_lt h1 (List.getElem?_eq_some_iff.1 h1).1
    dsimp only at this ⊢
    omega

theorem ownsRow_ex {W : World} {B n sz : Nat} {e : TypeId} {v : Value} {xs : List Value} (h : W.ownsRow B e sz v n xs) (hn : 0 < n) : ∃ b c, v = .slice (some ⟨b, 0, none⟩) n c ∧ n ≤ c ∧ ∀ i u, xs[i]? = some u → W.cell? ⟨b, i, none⟩ = some u := by
  rcases h.2 with ⟨-, e2⟩ | ⟨b, cap, cur, rfl, -, -, hc, -⟩
  · omega
  · refine ⟨b, cap, rfl, hc, fun i u hu => ?_⟩
    have := h.cells (g := b) rfl i u hu
    rwa [addr_add, Nat.zero_add] at this

theorem lvs_at : ∀ (LS : List (Nat × Nat)) (l : Nat) (x : Nat × Nat), LS[l]? = some x → (lvs LS)[l * 2]? = some (.int .i64 (x.1 : Int)) ∧ (lvs LS)[l * 2 + 1]? = some (.int .i64 (x.2 : Int))
  | [], _, _, h => by simp at h
  | y :: LS, 0, x, h => by
    have e : y = x := by simpa using h
    subst e
    exact ⟨rfl, rfl⟩
  | y :: LS, l + 1, x, h => by
    obtain ⟨g1, g2⟩ := lvs_at LS l x (by simpa using h)
    rw [show (l + 1) * 2 = l * 2 + 1 + 1 from by omega]
    exact ⟨by simpa [lvs] using g1, by simpa [lvs] using g2⟩

/-- The ground can be measured. -/
theorem NP.mg (np : NP O W w lo G M0 KK AA mk sk ma sa tk ta (ndK O KK KR ++ ndA O AA AR) (ndK O KK KR ++ ndA O AA AR).length LS lv nv PQ) (gi : GI O A7 (SB A7 lo G wb) KK AA KR AR [] [] [] 0 tot) (ht : tot ≤ 4000000) (h1 : 1 ≤ (ndK O KK KR ++ ndA O AA AR).length) : ∃ nb lsb cn cm, MG (grF LS PQ (ndK O KK KR ++ ndA O AA AR)) w G nb lsb cn cm := by
  obtain ⟨nb, cn, e1, n1, n2⟩ := ownsRow_ex np.pn.ow h1
  have hl0 := np.pn.l0
  have hl1 : 0 < LS.length := (List.getElem?_eq_some_iff.1 hl0).1
  obtain ⟨lsb, cm, e2, m1, m2⟩ := ownsRow_ex np.pn.z.ln.ow hl1
  have hpq := np.pq
  have hb := gi.bound.1
  have hll := np.ll
  have hls : ∀ l, l < LS.length → ∃ x, LS[l]? = some x ∧ LSo KK AA x := fun l hl => ⟨_, List.getElem?_eq_getElem hl, np.so _ (List.getElem_mem hl)⟩
  have hnd : ∀ k, k < (ndK O KK KR ++ ndA O AA AR).length → ∃ d p x y, (ndK O KK KR ++ ndA O AA AR)[k]? = some d ∧ PQ[k]? = some p ∧ LS[p.1]? = some x ∧ KX O KK (kA d.x) (kN d.x) x ∧ LS[p.2]? = some y ∧ AX O KK AA (aA d.x) (aN d.x) y := fun k hk => by
    obtain ⟨d, hd⟩ : ∃ d, (ndK O KK KR ++ ndA O AA AR)[k]? = some d := ⟨_, List.getElem?_eq_getElem hk⟩
    obtain ⟨p, hp⟩ : ∃ p, PQ[k]? = some p := ⟨_, List.getElem?_eq_getElem (by omega)⟩
    obtain ⟨x, y, r⟩ := np.rel k d p hd hp
    exact ⟨d, p, x, y, hd, hp, r⟩
  have hsL : ∀ l, l < LS.length → (grF LS PQ (ndK O KK KR ++ ndA O AA AR)).sL l ≤ tot := fun l hl => by
    obtain ⟨x, hx, ho⟩ := hls l hl
    rw [sL_at hx]
    exact (lso_le gi LS PQ ho).1
  refine ⟨nb, lsb, cn, cm, ⟨fun l hl => ?_, fun k hk => ?_, fun k hk => ?_, fun l hl => by have := hsL l hl; omega, ⟨?_, ?_⟩⟩, ⟨h1, hl1⟩, ⟨n1, m1⟩, ?_, ?_, fun k hk => ?_, fun l hl => ?_, fun p q hp hq => ⟨by have := hsL p hp; omega, by have := hsL q hq; omega⟩⟩
  · obtain ⟨x, hx, ho⟩ := hls l hl
    have := (lso_le gi LS PQ ho).2
    simp only [grF, getD_some hx]
    exact this
  · obtain ⟨d, p, x, y, hd, hp, r1, r2, r3, r4⟩ := hnd k hk
    simp only [grF, getD_some hp]
    exact ⟨(List.getElem?_eq_some_iff.1 r1).1, (List.getElem?_eq_some_iff.1 r3).1⟩
  · obtain ⟨d, p, x, y, hd, hp, r1, r2, r3, r4⟩ := hnd k hk
    have hm := List.mem_of_getElem? hd
    have ep : (grF LS PQ (ndK O KK KR ++ ndA O AA AR)).pl k = p.1 := by simp only [grF, getD_some hp]
    have eq : (grF LS PQ (ndK O KK KR ++ ndA O AA AR)).ql k = p.2 := by simp only [grF, getD_some hp]
    rw [sT_at hd, ep, eq, sL_at r1, sL_at r3, kx_sum gi ht LS PQ hm r2, ax_sum gi ht LS PQ hm r4]
    obtain ⟨kd, nm, mn, la, ln, lc, lk, na, nn, nc, nk, ka, kn, kc, kk, aa, an, ac, ak, e, -⟩ := core_open (gi.ok d hm).1.fit
    rw [e, tcK_nd, tcK_nil]
    simp only [kF, aF]
    omega
  · show LS.length ≤ 10000000
    omega
  · show (ndK O KK KR ++ ndA O AA AR).length ≤ 10000000
    omega
  · have := np.pn.c8
    rw [e1] at this
    exact this
  · have := np.pn.z.ln.c9
    rw [e2] at this
    exact this
  · obtain ⟨d, p, x, y, hd, hp, -⟩ := hnd k hk
    have htk : (ndK O KK KR ++ ndA O AA AR).take (ndK O KK KR ++ ndA O AA AR).length = ndK O KK KR ++ ndA O AA AR := List.take_length
    rw [htk] at n2
    obtain ⟨q1, q2⟩ := ncs_at _ _ k d p hd hp
    simp only [grF, getD_some hp]
    exact ⟨n2 _ _ q1, n2 _ _ q2⟩
  · obtain ⟨x, hx, -⟩ := hls l hl
    obtain ⟨q1, q2⟩ := lvs_at LS l x hx
    simp only [grF, getD_some hx]
    exact ⟨m2 _ _ q1, m2 _ _ q2⟩
end

end Go.Proofs.Ytfgmgbkiebeeoaa
