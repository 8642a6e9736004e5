import Derived.Test.YtcnokpaicnjkfaaNg
namespace Go.Proofs.Ytcnokpaicnjkfaa.F
open Go.RowKit Go.Joins

/-- The closure's value. -/
def cf (s fc pb : Nat) : Value := .func (.func 28) #[] #[.pointer (some ⟨s, 0, none⟩), .pointer (some ⟨fc, 0, none⟩), .pointer (some ⟨pb, 0, none⟩)]

/-- The names of a term, those of its alternative aside. -/
noncomputable def bdy (h : Hd) (ks al : Tm) : List ByteArray := own1 h.k h.nm ++ (h.ns ++ (ks.all ++ al.all))

theorem all_nd (h : Hd) (ks al r : Tm) : (Tm.nd h ks al r).all = h.cs ++ (bdy h ks al ++ r.all) := by
  simp only [Tm.all, bdy, List.append_assoc]

/-- Terms of kids bind no names of an alternative. -/
def Cs0 : Bool → Tm → Prop
  | _, .nil => True
  | alt, .nd h ks al r => (alt = false → h.cs = []) ∧ Cs0 false ks ∧ Cs0 true al ∧ Cs0 alt r

theorem len_nodes : ∀ t : Tm, t.len ≤ t.nodes
  | .nil => Nat.le_refl _
  | .nd h ks al r => by
    have := len_nodes r
    simp only [Tm.len, Tm.nodes]
    omega

/-- eachName: its contract for terms of at most m nodes. -/
def EnC (B0 b s fc pb : Nat) (Z : World) (T : List ByteArray) (S : Nat → Prop) (m : Nat) : Prop := ∀ (h : Hd) (ks al : Tm) (q : Nat) (kb ab : List Nat) (L : List ByteArray) (w : World), 1 + ks.nodes + al.nodes ≤ m → KnAt Z S T q h kb ab → Kn Z S T false ks kb → Kn Z S T true al ab → shp h ks.len al → ks.good → al.good → Cs0 false ks → Cs0 true al → L.length + (bdy h ks al).length ≤ 16777216 → CS B0 b s fc pb Z T L w →
  Calls Try.prog 27 #[.pointer (some ⟨q, 0, none⟩), cf s fc pb] w fun e w' => (∃ v, e = .returned v) ∧ CS B0 b s fc pb Z T (adds L (bdy h ks al)) w'

theorem shp_var {h : Hd} {kn : Nat} {al : Tm} (hs : shp h kn al) (hk : h.k = 1) : ¬ h.nm = ⟨#[]⟩ := by
  obtain ⟨-, -, -, h4⟩ := hs
  rcases h4 with ⟨-, h, -⟩ | ⟨h, -⟩ | ⟨h, -⟩ | ⟨h, -⟩ | ⟨h, -⟩ | ⟨h, -⟩ | ⟨h, -⟩ | ⟨h, -⟩ | ⟨h, -⟩ | ⟨h, -⟩
  · exact h
  all_goals (rw [hk] at h; exact absurd h (by decide))

theorem nm_zero {T : List ByteArray} (h0 : T[0]? = some ⟨#[]⟩) (nd : T.Nodup) {n : Nat} {x : ByteArray} (hx : T[n]? = some x) : x = ⟨#[]⟩ ↔ n = 0 := by
  constructor
  · intro e
    rw [e] at hx
    exact nodup_get nd hx h0
  · intro e
    rw [e, h0] at hx
    exact (Option.some.inj hx).symm

set_option maxHeartbeats 8000000 in
set_option maxRecDepth 100000 in
theorem en_step {B0 b s fc pb : Nat} {Z : World} {T : List ByteArray} {S : Nat → Prop} (hf : BF Z b s fc pb T) (hS : ∀ c, S c → c < Z.heap.size ∧ c ≠ s ∧ c ≠ fc) (h0 : T[0]? = some ⟨#[]⟩) (hB : B0 ≤ Z.heap.size) (hsl : s < Z.heap.size) (hfl : fc < Z.heap.size) (m : Nat) (hmx : m ≤ 16777216) (ih : EnC B0 b s fc pb Z T S m) : EnC B0 b s fc pb Z T S (m + 1) := by
  intro h ks al q kb ab L w hm hkn hks hal hsh hgk hga hck hca hL hcs
  -- what a knot's cells are
  have HRD : Hid (∀ V, Kept (fun c => c < Z.heap.size ∧ c ≠ s ∧ c ≠ fc) Z V → ∀ (c j : Nat) v, S c → Z.cell? ⟨c, j, none⟩ = some v → V.cell? ⟨c, j, none⟩ = some v) := fun V kV c j v hc hv => (kV.cell (p := ⟨c, j, none⟩) (hS c hc).1 (hS c hc)).trans hv
  have HNT : Hid (∀ (L : List ByteArray) (w : World) (n : Nat) (x : ByteArray), CS B0 b s fc pb Z T L w → T[n]? = some x → L.length ≤ 16777216 → Calls Try.prog 28 #[.int .i64 n, .pointer (some ⟨s, 0, none⟩), .pointer (some ⟨fc, 0, none⟩), .pointer (some ⟨pb, 0, none⟩)] w fun e w' => (∃ v, e = .returned v) ∧ CS B0 b s fc pb Z T (adds L [x]) w') := fun L w n x h1 h2 h3 => i_note hf h1 hB hsl hfl n x h2 h3
  obtain ⟨no, n1, n2⟩ := hkn.nm
  obtain ⟨na, nc, ns, m1, m2, m3⟩ := hkn.ns
  obtain ⟨ka, kc, k1, k2⟩ := hkn.kb
  obtain ⟨aa, ac, a1, a2⟩ := hkn.ab
  have sq := hkn.at_
  have hz := nm_zero h0 hf.nd n2
  have HIR := hide m2
  have HNU := hide m3
  have HPK := hide k2
  have HPA := hide a2
  have HKS := hide hks
  have HAL := hide hal
  have HGK := hide hgk
  have HGA := hide hga
  have HCK := hide hck
  have HCA := hide hca
  have hb0 : (bdy h ks al).length = (own1 h.k h.nm).length + (h.ns.length + (ks.all.length + al.all.length)) := by simp only [bdy, List.length_append]
  rw [hb0] at hL
  obtain ⟨xs, hxs⟩ : ∃ xs, h.ns = xs := ⟨_, rfl⟩
  rw [hxs] at m1 HNU hL
  obtain ⟨nn, hnn⟩ : ∃ nn, xs.length = nn := ⟨_, rfl⟩
  obtain ⟨kn, hknn⟩ : ∃ kn, kb.length = kn := ⟨_, rfl⟩
  obtain ⟨an, hann⟩ : ∃ an, ab.length = an := ⟨_, rfl⟩
  rw [hnn] at m1
  rw [hknn] at k1
  rw [hann] at a1
  have hnx : nn ≤ 16777216 := by omega
  have hkx : kn ≤ 16777216 := by have h1 := Kn.len _ _ hks; have h2 := len_nodes ks; omega
  have hax : an ≤ 16777216 := by have h1 := Kn.len _ _ hal; have h2 := len_nodes al; omega
  have HNN := hide hnn
  have HKN := hide hknn
  have HAN := hide hann
  have HM : Hid (ks.nodes ≤ m ∧ al.nodes ≤ m) := ⟨by omega, by omega⟩
  have HQ : Hid (∀ V, Kept (fun c => c < Z.heap.size ∧ c ≠ s ∧ c ≠ fc) Z V → V.cell? ⟨q, 0, none⟩ = some (.int .i64 h.k) ∧ V.cell? ⟨q, 1, none⟩ = some (.int .i64 (no : Int)) ∧ V.cell? ⟨q, 4, none⟩ = some (.slice na nn nc) ∧ V.cell? ⟨q, 5, none⟩ = some (.slice ka kn kc) ∧ V.cell? ⟨q, 6, none⟩ = some (.slice aa an ac)) := fun V kV => ⟨HRD.out V kV q 0 _ sq hkn.k, HRD.out V kV q 1 _ sq n1, HRD.out V kV q 4 _ sq m1, HRD.out V kV q 5 _ sq k1, HRD.out V kV q 6 _ sq a1⟩
  have hbnd : bdy h ks al = own1 h.k h.nm ++ (xs ++ (ks.all ++ al.all)) := by rw [← hxs]; rfl
  rw [hbnd]
  have HCS := hide hcs
  have HAD : Hid (L.length ≤ 16777216 → Calls Try.prog 28 #[.int .i64 no, .pointer (some ⟨s, 0, none⟩), .pointer (some ⟨fc, 0, none⟩), .pointer (some ⟨pb, 0, none⟩)] w fun e w' => (∃ v, e = .returned v) ∧ CS B0 b s fc pb Z T (adds L [h.nm]) w') := HNT.out L w no h.nm hcs n2
  have HKI : Hid (∀ (p : Nat) (hh : Hd) (k2 a2 : Tm) (kb2 ab2 : List Nat) (M : List ByteArray) (V : World), 1 + k2.nodes + a2.nodes ≤ m → KnAt Z S T p hh kb2 ab2 → Kn Z S T false k2 kb2 → Kn Z S T true a2 ab2 → shp hh k2.len a2 → k2.good → a2.good → Cs0 false k2 → Cs0 true a2 → M.length + (bdy hh k2 a2).length ≤ 16777216 → CS B0 b s fc pb Z T M V → Calls Try.prog 27 #[.pointer (some ⟨p, 0, none⟩), .func (.func 28) #[] #[.pointer (some ⟨s, 0, none⟩), .pointer (some ⟨fc, 0, none⟩), .pointer (some ⟨pb, 0, none⟩)]] V fun e w' => (∃ v, e = .returned v) ∧ CS B0 b s fc pb Z T (adds M (bdy hh k2 a2)) w') := fun p hh k2 a2 kb2 ab2 M V g1 g2 g3 g4 g5 g6 g7 g8 g9 g10 g11 => ih hh k2 a2 p kb2 ab2 M V g1 g2 g3 g4 g5 g6 g7 g8 g9 g10 g11
  obtain ⟨c0, c1, -, -, -⟩ := HQ.out w hcs.kp
  have hvar := shp_var hsh
  obtain ⟨hk, hkk⟩ : ∃ hk, h.k = hk := ⟨_, rfl⟩
  obtain ⟨nm, hnm⟩ : ∃ nm, h.nm = nm := ⟨_, rfl⟩
  rw [hkk] at c0 hL HQ hvar
  rw [hkk]
  rw [hnm] at hz hL HAD hvar
  rw [hnm]
  have hcs4 : (hk = 1 ∧ ¬ nm = ⟨#[]⟩) ∨ (hk = 8 ∧ ¬ nm = ⟨#[]⟩ ∧ ¬ no = 0) ∨ (hk = 8 ∧ nm = ⟨#[]⟩ ∧ no = 0) ∨ (¬ hk = 1 ∧ ¬ hk = 8) := by
    by_cases e1 : hk = 1
    · exact .inl ⟨e1, hvar e1⟩
    · by_cases e8 : hk = 8
      · by_cases e0 : nm = ⟨#[]⟩
        · exact .inr (.inr (.inl ⟨e8, e0, hz.1 e0⟩))
        · exact .inr (.inl ⟨e8, e0, fun e => e0 (hz.2 e)⟩)
      · exact .inr (.inr (.inr ⟨e1, e8⟩))
  obtain ⟨T1, hT1⟩ : ∃ T1, adds L (own1 hk nm) = T1 := ⟨_, rfl⟩
  have HEND : Hid (adds L (own1 hk nm ++ (xs ++ (ks.all ++ al.all))) = adds (adds (adds T1 xs) ks.all) al.all) := by
    unfold Hid
    rw [adds_append, adds_append, adds_append, hT1]
  rw [HEND.out]
  have HSZ : Hid (L.length + (own1 hk nm).length + xs.length + ks.all.length + al.all.length ≤ 16777216) := by show _ ≤ _; omega
  clear hf hS h0 hB hsl hfl ih hkn hks hal hsh hgk hga hck hca hL hcs n1 n2 m1 m2 m3 k1 k2 a1 a2 sq hz hb0 hxs hnn hknn hann hbnd hvar hkk hnm hm HEND
  simp only [cf]
  rcases hcs4 with ⟨e1, e2⟩ | ⟨e1, e2, e3⟩ | ⟨e1, e2, e3⟩ | ⟨e1, e2⟩
  · have ho : own1 hk nm = [nm] := if_pos ⟨e2, .inl e1⟩
    have HT : Hid (T1 = adds L [nm]) := by unfold Hid; rw [← hT1, ho]
    rw [ho] at HSZ
    have HSZ1 : Hid (L.length + 1 + xs.length + ks.all.length + al.all.length ≤ 16777216) := HSZ
    have HCN := hide (HAD.out (by have := HSZ1.out; omega))
    clear ho hT1 e2 HAD HSZ
    subst e1
    go_enter Try.func27, Try.ntmps27
    go_upto_region 2 with (go_at_call 28; refine HCN.out.mono ?_; rintro e w1 ⟨⟨v1, rfl⟩, hc1⟩; have HC1 := hide hc1; clear hc1)
    obtain ⟨-, -, c4, -, -⟩ := HQ.out w1 HC1.out.kp
    clear c0 c1
    go_upto_region 3 with fail
    clear c4
    go_loopw [5, 42] (fun _ s42 wr => ∃ (i : Nat) (M : List ByteArray), s42 = .int .i64 (i : Int) ∧ i ≤ nn ∧ Hid (adds M (xs.drop i) = adds T1 xs ∧ M.length + (xs.length - i) + ks.all.length + al.all.length ≤ 16777216) ∧ Hid (CS B0 b s fc pb Z T M wr)) (fun _ s42 _ => nn - (intOf s42).toNat)
    case atStart => exact ⟨0, adds L [nm], rfl, Nat.zero_le _, ⟨by rw [List.drop_zero, HT.out], by have := HSZ1.out; have := adds1_len L nm; omega⟩, HC1⟩
    case round =>
      obtain ⟨i, M, rfl, hin, hinv, hC⟩ := hrel
      by_cases hi : i < nn
      · have hii : (i : Int) < (nn : Int) := by omega
        have hil : i < xs.length := by rw [HNN.out]; exact hi
        obtain ⟨j, hj⟩ : ∃ j, ns[i]? = some j := ⟨_, List.getElem?_eq_getElem (by rw [HNU.out.1]; exact hil)⟩
        obtain ⟨bb, rfl, hbb, hcc⟩ := HIR.out (fun e => by rw [e] at hj; simp at hj)
        have p0 : wr.cell? ⟨bb, i, none⟩ = some (.int .i64 (j : Int)) := HRD.out wr hC.out.kp bb i _ hbb (hcc i j hj)
        obtain ⟨g3, g4⟩ := hinv.out
        rw [List.drop_eq_getElem_cons hil, adds_cons] at g3
        have HCN := hide (HNT.out M wr j xs[i] hC.out (HNU.out.2 i j _ hj (List.getElem?_eq_getElem hil)) (by omega))
        obtain ⟨M2, hM2⟩ : ∃ M2, adds M [xs[i]] = M2 := ⟨_, rfl⟩
        rw [hM2] at g3 HCN
        have HG : Hid (adds M2 (xs.drop (i + 1)) = adds T1 xs ∧ M2.length + (xs.length - (i + 1)) + ks.all.length + al.all.length ≤ 16777216) := ⟨g3, by have := adds1_len M xs[i]; rw [hM2] at this; omega⟩
        clear g3 g4 hinv hM2 hj hbb hcc hil hC
        go_wp2_with (go_at_call 28; refine HCN.out.mono ?_; rintro e w2 ⟨⟨v2, rfl⟩, hc2⟩; have HC2 := hide hc2; clear hc2)
        go_roundw
        case rel => exact ⟨i + 1, M2, by go_num, by omega, HG, HC2⟩
        case measure => simp [intOf]; omega
      · have hii : ¬ (i : Int) < (nn : Int) := by omega
        have HG : Hid (M = adds T1 xs ∧ M.length + ks.all.length + al.all.length ≤ 16777216) := by
          obtain ⟨g3, g4⟩ := hinv.out
          rw [List.drop_eq_nil_of_le (by rw [HNN.out]; omega)] at g3
          exact ⟨g3, by omega⟩
        obtain ⟨-, -, -, c5, -⟩ := HQ.out wr hC.out.kp
        clear hinv
        go_upto_region 8 with fail
        clear c5
        go_loopw [7, 55] (fun _ s55 wr => ∃ (i : Nat) (r : Tm) (M : List ByteArray), s55 = .int .i64 (i : Int) ∧ i ≤ kn ∧ Hid (adds M r.all = adds (adds T1 xs) ks.all ∧ M.length + r.all.length + al.all.length ≤ 16777216 ∧ Kn Z S T false r (kb.drop i) ∧ r.good ∧ r.nodes ≤ m ∧ Cs0 false r) ∧ Hid (CS B0 b s fc pb Z T M wr)) (fun _ s55 _ => kn - (intOf s55).toNat)
        case atStart => exact ⟨0, ks, M, rfl, Nat.zero_le _, ⟨by rw [HG.out.1], by have := HG.out.2; omega, by rw [List.drop_zero]; exact HKS.out, HGK.out, HM.out.1, HCK.out⟩, hC⟩
        case round =>
          clear HG hC
          obtain ⟨i, r, M, rfl, hin, hinv, hC⟩ := hrel
          by_cases hi : i < kn
          · have hii : (i : Int) < (kn : Int) := by omega
            have hil : i < kb.length := by rw [HKN.out]; exact hi
            obtain ⟨g1, g2, g3, g4, g5, g6⟩ := hinv.out
            rw [List.drop_eq_getElem_cons hil] at g3
            obtain ⟨p, hp⟩ : ∃ p, kb[i]? = some p := ⟨_, List.getElem?_eq_getElem hil⟩
            obtain ⟨bb, rfl, hbb, hcc⟩ := HPK.out (fun e => by rw [e] at hil; simp at hil)
            have p0 : wr.cell? ⟨bb, i, none⟩ = some (.pointer (some ⟨p, 0, none⟩)) := HRD.out wr hC.out.kp bb i _ hbb (hcc i p hp)
            have ep : kb[i] = p := by rw [List.getElem?_eq_getElem hil] at hp; exact Option.some.inj hp
            rw [ep] at g3
            cases r with
            | nil => exact absurd g3 (by simp [Kn])
            | nd hh k3 a3 r3 =>
              obtain ⟨p', q', rest, kb3, ab3, f1, f2, f3, f4, f5, f6⟩ := g3
              have e1' : p = p' := by injection f1
              have e2' : kb.drop (i + 1) = rest := by injection f1
              have e3' : p' = q' := f2
              rw [← e2'] at f6
              rw [← e3', ← e1'] at f3
              obtain ⟨s1, s2, s3, s4⟩ := g4
              rw [all_nd] at g1 g2
              rw [adds_append, adds_append] at g1
              simp only [Tm.nodes] at g5
              simp only [List.length_append] at g2
              obtain ⟨z1, z2, z3, z4⟩ := g6
              have hcs0 : hh.cs = [] := z1 rfl
              rw [hcs0] at g1 g2
              replace g1 : adds (adds M (bdy hh k3 a3)) r3.all = adds (adds T1 xs) ks.all := g1
              have HCN := hide (HKI.out p hh k3 a3 kb3 ab3 M wr (by omega) f3 f4 f5 s1 s2 s3 z2 z3 (by simp only [List.length_nil] at g2; omega) hC.out)
              obtain ⟨M2, hM2⟩ : ∃ M2, adds M (bdy hh k3 a3) = M2 := ⟨_, rfl⟩
              rw [hM2] at g1 HCN
              have HG : Hid (adds M2 r3.all = adds (adds T1 xs) ks.all ∧ M2.length + r3.all.length + al.all.length ≤ 16777216 ∧ Kn Z S T false r3 (kb.drop (i + 1)) ∧ r3.good ∧ r3.nodes ≤ m ∧ Cs0 false r3) := ⟨g1, by have := adds_len (bdy hh k3 a3) M; rw [hM2] at this; simp only [List.length_nil] at g2; omega, f6, s4, by omega, z4⟩
              clear g1 g2 g5 hinv hM2 hp hbb hcc hil hC z1 z2 z3 z4 f1 f2 f3 f4 f5 f6 s1 s2 s3 s4 ep e1' e2' e3' hcs0
              go_wp2_with (go_at_call 27; refine HCN.out.mono ?_; rintro e w2 ⟨⟨v2, rfl⟩, hc2⟩; have HC2 := hide hc2; clear hc2)
              go_roundw
              case rel => exact ⟨i + 1, r3, M2, by go_num, by omega, HG, HC2⟩
              case measure => simp [intOf]; omega
          · have hii : ¬ (i : Int) < (kn : Int) := by omega
            have HG : Hid (M = adds (adds T1 xs) ks.all ∧ M.length + al.all.length ≤ 16777216) := by
              obtain ⟨g1, g2, g3, -, -⟩ := hinv.out
              rw [List.drop_eq_nil_of_le (by rw [HKN.out]; omega)] at g3
              cases r with
              | nil => exact ⟨g1, by simp only [Tm.all, List.length_nil] at g2; omega⟩
              | nd hh k3 a3 r3 =>
                obtain ⟨p', q', rest, kb3, ab3, f1, -⟩ := g3
                cases f1
            obtain ⟨-, -, -, -, c6⟩ := HQ.out wr hC.out.kp
            clear hinv
            go_upto_region 13 with fail
            clear c6
            go_loopw [9, 11, 68] (fun _ _ s68 wr => ∃ (i : Nat) (r : Tm) (M : List ByteArray), s68 = .int .i64 (i : Int) ∧ i ≤ an ∧ Hid (adds M r.all = adds (adds (adds T1 xs) ks.all) al.all ∧ M.length + r.all.length ≤ 16777216 ∧ Kn Z S T true r (ab.drop i) ∧ r.good ∧ r.nodes ≤ m ∧ Cs0 true r) ∧ Hid (CS B0 b s fc pb Z T M wr)) (fun _ _ s68 _ => an - (intOf s68).toNat)
            case atStart => exact ⟨0, al, M, rfl, Nat.zero_le _, ⟨by rw [HG.out.1], by have := HG.out.2; omega, by rw [List.drop_zero]; exact HAL.out, HGA.out, HM.out.2, HCA.out⟩, hC⟩
            case round =>
              clear HG hC
              obtain ⟨i, r, M, rfl, hin, hinv, hC⟩ := hrel
              by_cases hi : i < an
              · have hii : (i : Int) < (an : Int) := by omega
                have hil : i < ab.length := by rw [HAN.out]; exact hi
                obtain ⟨g1, g2, g3, g4, g5, g6⟩ := hinv.out
                rw [List.drop_eq_getElem_cons hil] at g3
                obtain ⟨p, hp⟩ : ∃ p, ab[i]? = some p := ⟨_, List.getElem?_eq_getElem hil⟩
                obtain ⟨bb, rfl, hbb, hcc⟩ := HPA.out (fun e => by rw [e] at hil; simp at hil)
                have p0 : wr.cell? ⟨bb, i, none⟩ = some (.pointer (some ⟨p, 0, none⟩)) := HRD.out wr hC.out.kp bb i _ hbb (hcc i p hp)
                have ep : ab[i] = p := by rw [List.getElem?_eq_getElem hil] at hp; exact Option.some.inj hp
                rw [ep] at g3
                cases r with
                | nil => exact absurd g3 (by simp [Kn])
                | nd hh k3 a3 r3 =>
                  obtain ⟨p', q', rest, kb3, ab3, f1, f2, f3, f4, f5, f6⟩ := g3
                  have e1' : p = p' := by injection f1
                  have e2' : ab.drop (i + 1) = rest := by injection f1
                  replace f2 : AltAt Z S T p' hh q' := f2
                  rw [← e2'] at f6
                  rw [← e1'] at f2
                  obtain ⟨s1, s2, s3, s4⟩ := g4
                  obtain ⟨z1, z2, z3, z4⟩ := g6
                  obtain ⟨ca, cc, cs', y1, y2, y3⟩ := f2.ns
                  have sp := f2.at_
                  have y4 := f2.body
                  rw [all_nd] at g1 g2
                  rw [adds_append, adds_append] at g1
                  simp only [Tm.nodes] at g5
                  simp only [List.length_append] at g2
                  obtain ⟨CS', hCS⟩ : ∃ X, hh.cs = X := ⟨_, rfl⟩
                  obtain ⟨cn, hcn⟩ : ∃ n, CS'.length = n := ⟨_, rfl⟩
                  rw [hCS] at g1 g2 y1 y3
                  rw [hcn] at y1
                  have hcx : cn ≤ 16777216 := by omega
                  obtain ⟨Ty, hTy⟩ : ∃ Ty, adds M CS' = Ty := ⟨_, rfl⟩
                  rw [hTy] at g1
                  have HG0 : Hid (adds M (CS'.drop 0) = Ty ∧ M.length + (CS'.length - 0) + (bdy hh k3 a3).length + r3.all.length ≤ 16777216) := ⟨by rw [List.drop_zero]; exact hTy, by omega⟩
                  have HY : Hid (∀ V, Kept (fun c => c < Z.heap.size ∧ c ≠ s ∧ c ≠ fc) Z V → V.cell? ⟨p, 1, none⟩ = some (.slice ca cn cc) ∧ V.cell? ⟨p, 2, none⟩ = some (.pointer (some ⟨q', 0, none⟩))) := fun V kV => ⟨HRD.out V kV p 1 _ sp y1, HRD.out V kV p 2 _ sp y4⟩
                  have HKC : Hid (∀ (M2 : List ByteArray) (V : World), M2.length + (bdy hh k3 a3).length ≤ 16777216 → CS B0 b s fc pb Z T M2 V → Calls Try.prog 27 #[.pointer (some ⟨q', 0, none⟩), .func (.func 28) #[] #[.pointer (some ⟨s, 0, none⟩), .pointer (some ⟨fc, 0, none⟩), .pointer (some ⟨pb, 0, none⟩)]] V fun e w' => (∃ v, e = .returned v) ∧ CS B0 b s fc pb Z T (adds M2 (bdy hh k3 a3)) w') := fun M2 V h1 h2 => HKI.out q' hh k3 a3 kb3 ab3 M2 V (by omega) f3 f4 f5 s1 s2 s3 z2 z3 h1 h2
                  have HG1 : Hid (adds (adds Ty (bdy hh k3 a3)) r3.all = adds (adds (adds T1 xs) ks.all) al.all ∧ Kn Z S T true r3 (ab.drop (i + 1)) ∧ r3.good ∧ r3.nodes ≤ m ∧ Cs0 true r3) := ⟨g1, f6, s4, by omega, z4⟩
                  have HIC := hide y2
                  have HNC := hide y3
                  have HCN := hide hcn
                  obtain ⟨d1, -⟩ := HY.out wr hC.out.kp
                  clear g1 g2 g5 hinv hp hbb hcc hil f1 f2 f3 f4 f5 f6 s1 s2 s3 s4 z1 z2 z3 z4 ep e1' e2' y1 y2 y3 y4 sp hcn hCS hTy
                  go_upto_region 16 with fail
                  clear p0 d1
                  go_loopw [11, 77] (fun _ s77 wr => ∃ (j : Nat) (M2 : List ByteArray), s77 = .int .i64 (j : Int) ∧ j ≤ cn ∧ Hid (adds M2 (CS'.drop j) = Ty ∧ M2.length + (CS'.length - j) + (bdy hh k3 a3).length + r3.all.length ≤ 16777216) ∧ Hid (CS B0 b s fc pb Z T M2 wr)) (fun _ s77 _ => cn - (intOf s77).toNat)
                  case atStart => exact ⟨0, M, rfl, Nat.zero_le _, HG0, hC⟩
                  case round =>
                    clear HG0 hC
                    obtain ⟨j, M2, rfl, hjn, hinv, hC⟩ := hrel
                    by_cases hj : j < cn
                    · have hjj : (j : Int) < (cn : Int) := by omega
                      have hjl : j < CS'.length := by rw [HCN.out]; exact hj
                      obtain ⟨no2, hno⟩ : ∃ n, cs'[j]? = some n := ⟨_, List.getElem?_eq_getElem (by rw [HNC.out.1]; exact hjl)⟩
                      obtain ⟨b2, rfl, hb2, hc2⟩ := HIC.out (fun e => by rw [e] at hno; simp at hno)
                      have p0 : wr.cell? ⟨b2, j, none⟩ = some (.int .i64 (no2 : Int)) := HRD.out wr hC.out.kp b2 j _ hb2 (hc2 j no2 hno)
                      obtain ⟨g3, g4⟩ := hinv.out
                      rw [List.drop_eq_getElem_cons hjl, adds_cons] at g3
                      have HCM := hide (HNT.out M2 wr no2 CS'[j] hC.out (HNC.out.2 j no2 _ hno (List.getElem?_eq_getElem hjl)) (by omega))
                      obtain ⟨M3, hM3⟩ : ∃ M3, adds M2 [CS'[j]] = M3 := ⟨_, rfl⟩
                      rw [hM3] at g3 HCM
                      have HG : Hid (adds M3 (CS'.drop (j + 1)) = Ty ∧ M3.length + (CS'.length - (j + 1)) + (bdy hh k3 a3).length + r3.all.length ≤ 16777216) := ⟨g3, by have := adds1_len M2 CS'[j]; rw [hM3] at this; omega⟩
                      clear g3 g4 hinv hM3 hno hb2 hc2 hjl hC
                      go_wp2_with (go_at_call 28; refine HCM.out.mono ?_; rintro e w2 ⟨⟨v2, rfl⟩, hc2⟩; have HC2 := hide hc2; clear hc2)
                      go_roundw
                      case rel => exact ⟨j + 1, M3, by go_num, by omega, HG, HC2⟩
                      case measure => simp [intOf]; omega
                    · have hjj : ¬ (j : Int) < (cn : Int) := by omega
                      obtain ⟨g3, g4⟩ := hinv.out
                      rw [List.drop_eq_nil_of_le (by rw [HCN.out]; omega)] at g3
                      have e3 : M2 = Ty := g3
                      subst e3
                      have HCM := hide (HKC.out M2 wr (by omega) hC.out)
                      obtain ⟨M3, hM3⟩ : ∃ M3, adds M2 (bdy hh k3 a3) = M3 := ⟨_, rfl⟩
                      rw [hM3] at HCM
                      have HG : Hid (adds M3 r3.all = adds (adds (adds T1 xs) ks.all) al.all ∧ M3.length + r3.all.length ≤ 16777216 ∧ Kn Z S T true r3 (ab.drop (i + 1)) ∧ r3.good ∧ r3.nodes ≤ m ∧ Cs0 true r3) := by
                        obtain ⟨h1, h2⟩ := HG1.out
                        rw [hM3] at h1
                        exact ⟨h1, by have := adds_len (bdy hh k3 a3) M2; rw [hM3] at this; omega, h2⟩
                      obtain ⟨-, d2⟩ := HY.out wr hC.out.kp
                      clear g3 g4 hinv hM3 hC
                      go_wp2_with (go_at_call 27; refine HCM.out.mono ?_; rintro e w2 ⟨⟨v2, rfl⟩, hc2⟩; have HC2 := hide hc2; clear hc2)
                      go_roundw
                      case rel => exact ⟨i + 1, r3, M3, by go_num, by omega, HG, HC2⟩
                      case measure => simp [intOf]; omega
              · have hii : ¬ (i : Int) < (an : Int) := by omega
                have HG : Hid (M = adds (adds (adds T1 xs) ks.all) al.all) := by
                  obtain ⟨g1, g2, g3, -, -⟩ := hinv.out
                  rw [List.drop_eq_nil_of_le (by rw [HAN.out]; omega)] at g3
                  cases r with
                  | nil => exact g1
                  | nd hh k3 a3 r3 =>
                    obtain ⟨p', q', rest, kb3, ab3, f1, -⟩ := g3
                    cases f1
                clear hinv
                go_wp2_with fail
                go_end0
                exact ⟨⟨_, rfl⟩, by rw [← HG.out]; exact hC.out⟩
  · have ho : own1 hk nm = [nm] := if_pos ⟨e2, .inr e1⟩
    have HT : Hid (T1 = adds L [nm]) := by unfold Hid; rw [← hT1, ho]
    rw [ho] at HSZ
    have HSZ1 : Hid (L.length + 1 + xs.length + ks.all.length + al.all.length ≤ 16777216) := HSZ
    have HCN := hide (HAD.out (by have := HSZ1.out; omega))
    have e3' : ((no : Int) != 0) = true := by rw [bne_iff_ne]; omega
    clear ho hT1 e2 HAD HSZ
    subst e1
    go_enter Try.func27, Try.ntmps27
    go_upto_region 2 with (go_at_call 28; refine HCN.out.mono ?_; rintro e w1 ⟨⟨v1, rfl⟩, hc1⟩; have HC1 := hide hc1; clear hc1)
    obtain ⟨-, -, c4, -, -⟩ := HQ.out w1 HC1.out.kp
    clear c0 c1
    go_upto_region 3 with fail
    clear c4
    go_loopw [5, 42] (fun _ s42 wr => ∃ (i : Nat) (M : List ByteArray), s42 = .int .i64 (i : Int) ∧ i ≤ nn ∧ Hid (adds M (xs.drop i) = adds T1 xs ∧ M.length + (xs.length - i) + ks.all.length + al.all.length ≤ 16777216) ∧ Hid (CS B0 b s fc pb Z T M wr)) (fun _ s42 _ => nn - (intOf s42).toNat)
    case atStart => exact ⟨0, adds L [nm], rfl, Nat.zero_le _, ⟨by rw [List.drop_zero, HT.out], by have := HSZ1.out; have := adds1_len L nm; omega⟩, HC1⟩
    case round =>
      obtain ⟨i, M, rfl, hin, hinv, hC⟩ := hrel
      by_cases hi : i < nn
      · have hii : (i : Int) < (nn : Int) := by omega
        have hil : i < xs.length := by rw [HNN.out]; exact hi
        obtain ⟨j, hj⟩ : ∃ j, ns[i]? = some j := ⟨_, List.getElem?_eq_getElem (by rw [HNU.out.1]; exact hil)⟩
        obtain ⟨bb, rfl, hbb, hcc⟩ := HIR.out (fun e => by rw [e] at hj; simp at hj)
        have p0 : wr.cell? ⟨bb, i, none⟩ = some (.int .i64 (j : Int)) := HRD.out wr hC.out.kp bb i _ hbb (hcc i j hj)
        obtain ⟨g3, g4⟩ := hinv.out
        rw [List.drop_eq_getElem_cons hil, adds_cons] at g3
        have HCN := hide (HNT.out M wr j xs[i] hC.out (HNU.out.2 i j _ hj (List.getElem?_eq_getElem hil)) (by omega))
        obtain ⟨M2, hM2⟩ : ∃ M2, adds M [xs[i]] = M2 := ⟨_, rfl⟩
        rw [hM2] at g3 HCN
        have HG : Hid (adds M2 (xs.drop (i + 1)) = adds T1 xs ∧ M2.length + (xs.length - (i + 1)) + ks.all.length + al.all.length ≤ 16777216) := ⟨g3, by have := adds1_len M xs[i]; rw [hM2] at this; omega⟩
        clear g3 g4 hinv hM2 hj hbb hcc hil hC
        go_wp2_with (go_at_call 28; refine HCN.out.mono ?_; rintro e w2 ⟨⟨v2, rfl⟩, hc2⟩; have HC2 := hide hc2; clear hc2)
        go_roundw
        case rel => exact ⟨i + 1, M2, by go_num, by omega, HG, HC2⟩
        case measure => simp [intOf]; omega
      · have hii : ¬ (i : Int) < (nn : Int) := by omega
        have HG : Hid (M = adds T1 xs ∧ M.length + ks.all.length + al.all.length ≤ 16777216) := by
          obtain ⟨g3, g4⟩ := hinv.out
          rw [List.drop_eq_nil_of_le (by rw [HNN.out]; omega)] at g3
          exact ⟨g3, by omega⟩
        obtain ⟨-, -, -, c5, -⟩ := HQ.out wr hC.out.kp
        clear hinv
        go_upto_region 8 with fail
        clear c5
        go_loopw [7, 55] (fun _ s55 wr => ∃ (i : Nat) (r : Tm) (M : List ByteArray), s55 = .int .i64 (i : Int) ∧ i ≤ kn ∧ Hid (adds M r.all = adds (adds T1 xs) ks.all ∧ M.length + r.all.length + al.all.length ≤ 16777216 ∧ Kn Z S T false r (kb.drop i) ∧ r.good ∧ r.nodes ≤ m ∧ Cs0 false r) ∧ Hid (CS B0 b s fc pb Z T M wr)) (fun _ s55 _ => kn - (intOf s55).toNat)
        case atStart => exact ⟨0, ks, M, rfl, Nat.zero_le _, ⟨by rw [HG.out.1], by have := HG.out.2; omega, by rw [List.drop_zero]; exact HKS.out, HGK.out, HM.out.1, HCK.out⟩, hC⟩
        case round =>
          clear HG hC
          obtain ⟨i, r, M, rfl, hin, hinv, hC⟩ := hrel
          by_cases hi : i < kn
          · have hii : (i : Int) < (kn : Int) := by omega
            have hil : i < kb.length := by rw [HKN.out]; exact hi
            obtain ⟨g1, g2, g3, g4, g5, g6⟩ := hinv.out
            rw [List.drop_eq_getElem_cons hil] at g3
            obtain ⟨p, hp⟩ : ∃ p, kb[i]? = some p := ⟨_, List.getElem?_eq_getElem hil⟩
            obtain ⟨bb, rfl, hbb, hcc⟩ := HPK.out (fun e => by rw [e] at hil; simp at hil)
            have p0 : wr.cell? ⟨bb, i, none⟩ = some (.pointer (some ⟨p, 0, none⟩)) := HRD.out wr hC.out.kp bb i _ hbb (hcc i p hp)
            have ep : kb[i] = p := by rw [List.getElem?_eq_getElem hil] at hp; exact Option.some.inj hp
            rw [ep] at g3
            cases r with
            | nil => exact absurd g3 (by simp [Kn])
            | nd hh k3 a3 r3 =>
              obtain ⟨p', q', rest, kb3, ab3, f1, f2, f3, f4, f5, f6⟩ := g3
              have e1' : p = p' := by injection f1
              have e2' : kb.drop (i + 1) = rest := by injection f1
              have e3' : p' = q' := f2
              rw [← e2'] at f6
              rw [← e3', ← e1'] at f3
              obtain ⟨s1, s2, s3, s4⟩ := g4
              rw [all_nd] at g1 g2
              rw [adds_append, adds_append] at g1
              simp only [Tm.nodes] at g5
              simp only [List.length_append] at g2
              obtain ⟨z1, z2, z3, z4⟩ := g6
              have hcs0 : hh.cs = [] := z1 rfl
              rw [hcs0] at g1 g2
              replace g1 : adds (adds M (bdy hh k3 a3)) r3.all = adds (adds T1 xs) ks.all := g1
              have HCN := hide (HKI.out p hh k3 a3 kb3 ab3 M wr (by omega) f3 f4 f5 s1 s2 s3 z2 z3 (by simp only [List.length_nil] at g2; omega) hC.out)
              obtain ⟨M2, hM2⟩ : ∃ M2, adds M (bdy hh k3 a3) = M2 := ⟨_, rfl⟩
              rw [hM2] at g1 HCN
              have HG : Hid (adds M2 r3.all = adds (adds T1 xs) ks.all ∧ M2.length + r3.all.length + al.all.length ≤ 16777216 ∧ Kn Z S T false r3 (kb.drop (i + 1)) ∧ r3.good ∧ r3.nodes ≤ m ∧ Cs0 false r3) := ⟨g1, by have := adds_len (bdy hh k3 a3) M; rw [hM2] at this; simp only [List.length_nil] at g2; omega, f6, s4, by omega, z4⟩
              clear g1 g2 g5 hinv hM2 hp hbb hcc hil hC z1 z2 z3 z4 f1 f2 f3 f4 f5 f6 s1 s2 s3 s4 ep e1' e2' e3' hcs0
              go_wp2_with (go_at_call 27; refine HCN.out.mono ?_; rintro e w2 ⟨⟨v2, rfl⟩, hc2⟩; have HC2 := hide hc2; clear hc2)
              go_roundw
              case rel => exact ⟨i + 1, r3, M2, by go_num, by omega, HG, HC2⟩
              case measure => simp [intOf]; omega
          · have hii : ¬ (i : Int) < (kn : Int) := by omega
            have HG : Hid (M = adds (adds T1 xs) ks.all ∧ M.length + al.all.length ≤ 16777216) := by
              obtain ⟨g1, g2, g3, -, -⟩ := hinv.out
              rw [List.drop_eq_nil_of_le (by rw [HKN.out]; omega)] at g3
              cases r with
              | nil => exact ⟨g1, by simp only [Tm.all, List.length_nil] at g2; omega⟩
              | nd hh k3 a3 r3 =>
                obtain ⟨p', q', rest, kb3, ab3, f1, -⟩ := g3
                cases f1
            obtain ⟨-, -, -, -, c6⟩ := HQ.out wr hC.out.kp
            clear hinv
            go_upto_region 13 with fail
            clear c6
            go_loopw [9, 11, 68] (fun _ _ s68 wr => ∃ (i : Nat) (r : Tm) (M : List ByteArray), s68 = .int .i64 (i : Int) ∧ i ≤ an ∧ Hid (adds M r.all = adds (adds (adds T1 xs) ks.all) al.all ∧ M.length + r.all.length ≤ 16777216 ∧ Kn Z S T true r (ab.drop i) ∧ r.good ∧ r.nodes ≤ m ∧ Cs0 true r) ∧ Hid (CS B0 b s fc pb Z T M wr)) (fun _ _ s68 _ => an - (intOf s68).toNat)
            case atStart => exact ⟨0, al, M, rfl, Nat.zero_le _, ⟨by rw [HG.out.1], by have := HG.out.2; omega, by rw [List.drop_zero]; exact HAL.out, HGA.out, HM.out.2, HCA.out⟩, hC⟩
            case round =>
              clear HG hC
              obtain ⟨i, r, M, rfl, hin, hinv, hC⟩ := hrel
              by_cases hi : i < an
              · have hii : (i : Int) < (an : Int) := by omega
                have hil : i < ab.length := by rw [HAN.out]; exact hi
                obtain ⟨g1, g2, g3, g4, g5, g6⟩ := hinv.out
                rw [List.drop_eq_getElem_cons hil] at g3
                obtain ⟨p, hp⟩ : ∃ p, ab[i]? = some p := ⟨_, List.getElem?_eq_getElem hil⟩
                obtain ⟨bb, rfl, hbb, hcc⟩ := HPA.out (fun e => by rw [e] at hil; simp at hil)
                have p0 : wr.cell? ⟨bb, i, none⟩ = some (.pointer (some ⟨p, 0, none⟩)) := HRD.out wr hC.out.kp bb i _ hbb (hcc i p hp)
                have ep : ab[i] = p := by rw [List.getElem?_eq_getElem hil] at hp; exact Option.some.inj hp
                rw [ep] at g3
                cases r with
                | nil => exact absurd g3 (by simp [Kn])
                | nd hh k3 a3 r3 =>
                  obtain ⟨p', q', rest, kb3, ab3, f1, f2, f3, f4, f5, f6⟩ := g3
                  have e1' : p = p' := by injection f1
                  have e2' : ab.drop (i + 1) = rest := by injection f1
                  replace f2 : AltAt Z S T p' hh q' := f2
                  rw [← e2'] at f6
                  rw [← e1'] at f2
                  obtain ⟨s1, s2, s3, s4⟩ := g4
                  obtain ⟨z1, z2, z3, z4⟩ := g6
                  obtain ⟨ca, cc, cs', y1, y2, y3⟩ := f2.ns
                  have sp := f2.at_
                  have y4 := f2.body
                  rw [all_nd] at g1 g2
                  rw [adds_append, adds_append] at g1
                  simp only [Tm.nodes] at g5
                  simp only [List.length_append] at g2
                  obtain ⟨CS', hCS⟩ : ∃ X, hh.cs = X := ⟨_, rfl⟩
                  obtain ⟨cn, hcn⟩ : ∃ n, CS'.length = n := ⟨_, rfl⟩
                  rw [hCS] at g1 g2 y1 y3
                  rw [hcn] at y1
                  have hcx : cn ≤ 16777216 := by omega
                  obtain ⟨Ty, hTy⟩ : ∃ Ty, adds M CS' = Ty := ⟨_, rfl⟩
                  rw [hTy] at g1
                  have HG0 : Hid (adds M (CS'.drop 0) = Ty ∧ M.length + (CS'.length - 0) + (bdy hh k3 a3).length + r3.all.length ≤ 16777216) := ⟨by rw [List.drop_zero]; exact hTy, by omega⟩
                  have HY : Hid (∀ V, Kept (fun c => c < Z.heap.size ∧ c ≠ s ∧ c ≠ fc) Z V → V.cell? ⟨p, 1, none⟩ = some (.slice ca cn cc) ∧ V.cell? ⟨p, 2, none⟩ = some (.pointer (some ⟨q', 0, none⟩))) := fun V kV => ⟨HRD.out V kV p 1 _ sp y1, HRD.out V kV p 2 _ sp y4⟩
                  have HKC : Hid (∀ (M2 : List ByteArray) (V : World), M2.length + (bdy hh k3 a3).length ≤ 16777216 → CS B0 b s fc pb Z T M2 V → Calls Try.prog 27 #[.pointer (some ⟨q', 0, none⟩), .func (.func 28) #[] #[.pointer (some ⟨s, 0, none⟩), .pointer (some ⟨fc, 0, none⟩), .pointer (some ⟨pb, 0, none⟩)]] V fun e w' => (∃ v, e = .returned v) ∧ CS B0 b s fc pb Z T (adds M2 (bdy hh k3 a3)) w') := fun M2 V h1 h2 => HKI.out q' hh k3 a3 kb3 ab3 M2 V (by omega) f3 f4 f5 s1 s2 s3 z2 z3 h1 h2
                  have HG1 : Hid (adds (adds Ty (bdy hh k3 a3)) r3.all = adds (adds (adds T1 xs) ks.all) al.all ∧ Kn Z S T true r3 (ab.drop (i + 1)) ∧ r3.good ∧ r3.nodes ≤ m ∧ Cs0 true r3) := ⟨g1, f6, s4, by omega, z4⟩
                  have HIC := hide y2
                  have HNC := hide y3
                  have HCN := hide hcn
                  obtain ⟨d1, -⟩ := HY.out wr hC.out.kp
                  clear g1 g2 g5 hinv hp hbb hcc hil f1 f2 f3 f4 f5 f6 s1 s2 s3 s4 z1 z2 z3 z4 ep e1' e2' y1 y2 y3 y4 sp hcn hCS hTy
                  go_upto_region 16 with fail
                  clear p0 d1
                  go_loopw [11, 77] (fun _ s77 wr => ∃ (j : Nat) (M2 : List ByteArray), s77 = .int .i64 (j : Int) ∧ j ≤ cn ∧ Hid (adds M2 (CS'.drop j) = Ty ∧ M2.length + (CS'.length - j) + (bdy hh k3 a3).length + r3.all.length ≤ 16777216) ∧ Hid (CS B0 b s fc pb Z T M2 wr)) (fun _ s77 _ => cn - (intOf s77).toNat)
                  case atStart => exact ⟨0, M, rfl, Nat.zero_le _, HG0, hC⟩
                  case round =>
                    clear HG0 hC
                    obtain ⟨j, M2, rfl, hjn, hinv, hC⟩ := hrel
                    by_cases hj : j < cn
                    · have hjj : (j : Int) < (cn : Int) := by omega
                      have hjl : j < CS'.length := by rw [HCN.out]; exact hj
                      obtain ⟨no2, hno⟩ : ∃ n, cs'[j]? = some n := ⟨_, List.getElem?_eq_getElem (by rw [HNC.out.1]; exact hjl)⟩
                      obtain ⟨b2, rfl, hb2, hc2⟩ := HIC.out (fun e => by rw [e] at hno; simp at hno)
                      have p0 : wr.cell? ⟨b2, j, none⟩ = some (.int .i64 (no2 : Int)) := HRD.out wr hC.out.kp b2 j _ hb2 (hc2 j no2 hno)
                      obtain ⟨g3, g4⟩ := hinv.out
                      rw [List.drop_eq_getElem_cons hjl, adds_cons] at g3
                      have HCM := hide (HNT.out M2 wr no2 CS'[j] hC.out (HNC.out.2 j no2 _ hno (List.getElem?_eq_getElem hjl)) (by omega))
                      obtain ⟨M3, hM3⟩ : ∃ M3, adds M2 [CS'[j]] = M3 := ⟨_, rfl⟩
                      rw [hM3] at g3 HCM
                      have HG : Hid (adds M3 (CS'.drop (j + 1)) = Ty ∧ M3.length + (CS'.length - (j + 1)) + (bdy hh k3 a3).length + r3.all.length ≤ 16777216) := ⟨g3, by have := adds1_len M2 CS'[j]; rw [hM3] at this; omega⟩
                      clear g3 g4 hinv hM3 hno hb2 hc2 hjl hC
                      go_wp2_with (go_at_call 28; refine HCM.out.mono ?_; rintro e w2 ⟨⟨v2, rfl⟩, hc2⟩; have HC2 := hide hc2; clear hc2)
                      go_roundw
                      case rel => exact ⟨j + 1, M3, by go_num, by omega, HG, HC2⟩
                      case measure => simp [intOf]; omega
                    · have hjj : ¬ (j : Int) < (cn : Int) := by omega
                      obtain ⟨g3, g4⟩ := hinv.out
                      rw [List.drop_eq_nil_of_le (by rw [HCN.out]; omega)] at g3
                      have e3 : M2 = Ty := g3
                      subst e3
                      have HCM := hide (HKC.out M2 wr (by omega) hC.out)
                      obtain ⟨M3, hM3⟩ : ∃ M3, adds M2 (bdy hh k3 a3) = M3 := ⟨_, rfl⟩
                      rw [hM3] at HCM
                      have HG : Hid (adds M3 r3.all = adds (adds (adds T1 xs) ks.all) al.all ∧ M3.length + r3.all.length ≤ 16777216 ∧ Kn Z S T true r3 (ab.drop (i + 1)) ∧ r3.good ∧ r3.nodes ≤ m ∧ Cs0 true r3) := by
                        obtain ⟨h1, h2⟩ := HG1.out
                        rw [hM3] at h1
                        exact ⟨h1, by have := adds_len (bdy hh k3 a3) M2; rw [hM3] at this; omega, h2⟩
                      obtain ⟨-, d2⟩ := HY.out wr hC.out.kp
                      clear g3 g4 hinv hM3 hC
                      go_wp2_with (go_at_call 27; refine HCM.out.mono ?_; rintro e w2 ⟨⟨v2, rfl⟩, hc2⟩; have HC2 := hide hc2; clear hc2)
                      go_roundw
                      case rel => exact ⟨i + 1, r3, M3, by go_num, by omega, HG, HC2⟩
                      case measure => simp [intOf]; omega
              · have hii : ¬ (i : Int) < (an : Int) := by omega
                have HG : Hid (M = adds (adds (adds T1 xs) ks.all) al.all) := by
                  obtain ⟨g1, g2, g3, -, -⟩ := hinv.out
                  rw [List.drop_eq_nil_of_le (by rw [HAN.out]; omega)] at g3
                  cases r with
                  | nil => exact g1
                  | nd hh k3 a3 r3 =>
                    obtain ⟨p', q', rest, kb3, ab3, f1, -⟩ := g3
                    cases f1
                clear hinv
                go_wp2_with fail
                go_end0
                exact ⟨⟨_, rfl⟩, by rw [← HG.out]; exact hC.out⟩
  · have ho : own1 hk nm = [] := if_neg (fun e => e.1 e2)
    have HT : Hid (T1 = L) := by unfold Hid; rw [← hT1, ho]; rfl
    have HSZ1 : Hid (L.length + xs.length + ks.all.length + al.all.length ≤ 16777216) := by have := HSZ.out; show _ ≤ _; omega
    clear ho hT1 e2 HAD HSZ
    subst e1
    subst e3
    go_enter Try.func27, Try.ntmps27
    go_upto_region 2 with fail
    obtain ⟨-, -, c4, -, -⟩ := HQ.out w HCS.out.kp
    clear c0 c1
    go_upto_region 3 with fail
    clear c4
    go_loopw [5, 42] (fun _ s42 wr => ∃ (i : Nat) (M : List ByteArray), s42 = .int .i64 (i : Int) ∧ i ≤ nn ∧ Hid (adds M (xs.drop i) = adds T1 xs ∧ M.length + (xs.length - i) + ks.all.length + al.all.length ≤ 16777216) ∧ Hid (CS B0 b s fc pb Z T M wr)) (fun _ s42 _ => nn - (intOf s42).toNat)
    case atStart => exact ⟨0, L, rfl, Nat.zero_le _, ⟨by rw [List.drop_zero, HT.out], by have := HSZ1.out; omega⟩, HCS⟩
    case round =>
      obtain ⟨i, M, rfl, hin, hinv, hC⟩ := hrel
      by_cases hi : i < nn
      · have hii : (i : Int) < (nn : Int) := by omega
        have hil : i < xs.length := by rw [HNN.out]; exact hi
        obtain ⟨j, hj⟩ : ∃ j, ns[i]? = some j := ⟨_, List.getElem?_eq_getElem (by rw [HNU.out.1]; exact hil)⟩
        obtain ⟨bb, rfl, hbb, hcc⟩ := HIR.out (fun e => by rw [e] at hj; simp at hj)
        have p0 : wr.cell? ⟨bb, i, none⟩ = some (.int .i64 (j : Int)) := HRD.out wr hC.out.kp bb i _ hbb (hcc i j hj)
        obtain ⟨g3, g4⟩ := hinv.out
        rw [List.drop_eq_getElem_cons hil, adds_cons] at g3
        have HCN := hide (HNT.out M wr j xs[i] hC.out (HNU.out.2 i j _ hj (List.getElem?_eq_getElem hil)) (by omega))
        obtain ⟨M2, hM2⟩ : ∃ M2, adds M [xs[i]] = M2 := ⟨_, rfl⟩
        rw [hM2] at g3 HCN
        have HG : Hid (adds M2 (xs.drop (i + 1)) = adds T1 xs ∧ M2.length + (xs.length - (i + 1)) + ks.all.length + al.all.length ≤ 16777216) := ⟨g3, by have := adds1_len M xs[i]; rw [hM2] at this; omega⟩
        clear g3 g4 hinv hM2 hj hbb hcc hil hC
        go_wp2_with (go_at_call 28; refine HCN.out.mono ?_; rintro e w2 ⟨⟨v2, rfl⟩, hc2⟩; have HC2 := hide hc2; clear hc2)
        go_roundw
        case rel => exact ⟨i + 1, M2, by go_num, by omega, HG, HC2⟩
        case measure => simp [intOf]; omega
      · have hii : ¬ (i : Int) < (nn : Int) := by omega
        have HG : Hid (M = adds T1 xs ∧ M.length + ks.all.length + al.all.length ≤ 16777216) := by
          obtain ⟨g3, g4⟩ := hinv.out
          rw [List.drop_eq_nil_of_le (by rw [HNN.out]; omega)] at g3
          exact ⟨g3, by omega⟩
        obtain ⟨-, -, -, c5, -⟩ := HQ.out wr hC.out.kp
        clear hinv
        go_upto_region 8 with fail
        clear c5
        go_loopw [7, 55] (fun _ s55 wr => ∃ (i : Nat) (r : Tm) (M : List ByteArray), s55 = .int .i64 (i : Int) ∧ i ≤ kn ∧ Hid (adds M r.all = adds (adds T1 xs) ks.all ∧ M.length + r.all.length + al.all.length ≤ 16777216 ∧ Kn Z S T false r (kb.drop i) ∧ r.good ∧ r.nodes ≤ m ∧ Cs0 false r) ∧ Hid (CS B0 b s fc pb Z T M wr)) (fun _ s55 _ => kn - (intOf s55).toNat)
        case atStart => exact ⟨0, ks, M, rfl, Nat.zero_le _, ⟨by rw [HG.out.1], by have := HG.out.2; omega, by rw [List.drop_zero]; exact HKS.out, HGK.out, HM.out.1, HCK.out⟩, hC⟩
        case round =>
          clear HG hC
          obtain ⟨i, r, M, rfl, hin, hinv, hC⟩ := hrel
          by_cases hi : i < kn
          · have hii : (i : Int) < (kn : Int) := by omega
            have hil : i < kb.length := by rw [HKN.out]; exact hi
            obtain ⟨g1, g2, g3, g4, g5, g6⟩ := hinv.out
            rw [List.drop_eq_getElem_cons hil] at g3
            obtain ⟨p, hp⟩ : ∃ p, kb[i]? = some p := ⟨_, List.getElem?_eq_getElem hil⟩
            obtain ⟨bb, rfl, hbb, hcc⟩ := HPK.out (fun e => by rw [e] at hil; simp at hil)
            have p0 : wr.cell? ⟨bb, i, none⟩ = some (.pointer (some ⟨p, 0, none⟩)) := HRD.out wr hC.out.kp bb i _ hbb (hcc i p hp)
            have ep : kb[i] = p := by rw [List.getElem?_eq_getElem hil] at hp; exact Option.some.inj hp
            rw [ep] at g3
            cases r with
            | nil => exact absurd g3 (by simp [Kn])
            | nd hh k3 a3 r3 =>
              obtain ⟨p', q', rest, kb3, ab3, f1, f2, f3, f4, f5, f6⟩ := g3
              have e1' : p = p' := by injection f1
              have e2' : kb.drop (i + 1) = rest := by injection f1
              have e3' : p' = q' := f2
              rw [← e2'] at f6
              rw [← e3', ← e1'] at f3
              obtain ⟨s1, s2, s3, s4⟩ := g4
              rw [all_nd] at g1 g2
              rw [adds_append, adds_append] at g1
              simp only [Tm.nodes] at g5
              simp only [List.length_append] at g2
              obtain ⟨z1, z2, z3, z4⟩ := g6
              have hcs0 : hh.cs = [] := z1 rfl
              rw [hcs0] at g1 g2
              replace g1 : adds (adds M (bdy hh k3 a3)) r3.all = adds (adds T1 xs) ks.all := g1
              have HCN := hide (HKI.out p hh k3 a3 kb3 ab3 M wr (by omega) f3 f4 f5 s1 s2 s3 z2 z3 (by simp only [List.length_nil] at g2; omega) hC.out)
              obtain ⟨M2, hM2⟩ : ∃ M2, adds M (bdy hh k3 a3) = M2 := ⟨_, rfl⟩
              rw [hM2] at g1 HCN
              have HG : Hid (adds M2 r3.all = adds (adds T1 xs) ks.all ∧ M2.length + r3.all.length + al.all.length ≤ 16777216 ∧ Kn Z S T false r3 (kb.drop (i + 1)) ∧ r3.good ∧ r3.nodes ≤ m ∧ Cs0 false r3) := ⟨g1, by have := adds_len (bdy hh k3 a3) M; rw [hM2] at this; simp only [List.length_nil] at g2; omega, f6, s4, by omega, z4⟩
              clear g1 g2 g5 hinv hM2 hp hbb hcc hil hC z1 z2 z3 z4 f1 f2 f3 f4 f5 f6 s1 s2 s3 s4 ep e1' e2' e3' hcs0
              go_wp2_with (go_at_call 27; refine HCN.out.mono ?_; rintro e w2 ⟨⟨v2, rfl⟩, hc2⟩; have HC2 := hide hc2; clear hc2)
              go_roundw
              case rel => exact ⟨i + 1, r3, M2, by go_num, by omega, HG, HC2⟩
              case measure => simp [intOf]; omega
          · have hii : ¬ (i : Int) < (kn : Int) := by omega
            have HG : Hid (M = adds (adds T1 xs) ks.all ∧ M.length + al.all.length ≤ 16777216) := by
              obtain ⟨g1, g2, g3, -, -⟩ := hinv.out
              rw [List.drop_eq_nil_of_le (by rw [HKN.out]; omega)] at g3
              cases r with
              | nil => exact ⟨g1, by simp only [Tm.all, List.length_nil] at g2; omega⟩
              | nd hh k3 a3 r3 =>
                obtain ⟨p', q', rest, kb3, ab3, f1, -⟩ := g3
                cases f1
            obtain ⟨-, -, -, -, c6⟩ := HQ.out wr hC.out.kp
            clear hinv
            go_upto_region 13 with fail
            clear c6
            go_loopw [9, 11, 68] (fun _ _ s68 wr => ∃ (i : Nat) (r : Tm) (M : List ByteArray), s68 = .int .i64 (i : Int) ∧ i ≤ an ∧ Hid (adds M r.all = adds (adds (adds T1 xs) ks.all) al.all ∧ M.length + r.all.length ≤ 16777216 ∧ Kn Z S T true r (ab.drop i) ∧ r.good ∧ r.nodes ≤ m ∧ Cs0 true r) ∧ Hid (CS B0 b s fc pb Z T M wr)) (fun _ _ s68 _ => an - (intOf s68).toNat)
            case atStart => exact ⟨0, al, M, rfl, Nat.zero_le _, ⟨by rw [HG.out.1], by have := HG.out.2; omega, by rw [List.drop_zero]; exact HAL.out, HGA.out, HM.out.2, HCA.out⟩, hC⟩
            case round =>
              clear HG hC
              obtain ⟨i, r, M, rfl, hin, hinv, hC⟩ := hrel
              by_cases hi : i < an
              · have hii : (i : Int) < (an : Int) := by omega
                have hil : i < ab.length := by rw [HAN.out]; exact hi
                obtain ⟨g1, g2, g3, g4, g5, g6⟩ := hinv.out
                rw [List.drop_eq_getElem_cons hil] at g3
                obtain ⟨p, hp⟩ : ∃ p, ab[i]? = some p := ⟨_, List.getElem?_eq_getElem hil⟩
                obtain ⟨bb, rfl, hbb, hcc⟩ := HPA.out (fun e => by rw [e] at hil; simp at hil)
                have p0 : wr.cell? ⟨bb, i, none⟩ = some (.pointer (some ⟨p, 0, none⟩)) := HRD.out wr hC.out.kp bb i _ hbb (hcc i p hp)
                have ep : ab[i] = p := by rw [List.getElem?_eq_getElem hil] at hp; exact Option.some.inj hp
                rw [ep] at g3
                cases r with
                | nil => exact absurd g3 (by simp [Kn])
                | nd hh k3 a3 r3 =>
                  obtain ⟨p', q', rest, kb3, ab3, f1, f2, f3, f4, f5, f6⟩ := g3
                  have e1' : p = p' := by injection f1
                  have e2' : ab.drop (i + 1) = rest := by injection f1
                  replace f2 : AltAt Z S T p' hh q' := f2
                  rw [← e2'] at f6
                  rw [← e1'] at f2
                  obtain ⟨s1, s2, s3, s4⟩ := g4
                  obtain ⟨z1, z2, z3, z4⟩ := g6
                  obtain ⟨ca, cc, cs', y1, y2, y3⟩ := f2.ns
                  have sp := f2.at_
                  have y4 := f2.body
                  rw [all_nd] at g1 g2
                  rw [adds_append, adds_append] at g1
                  simp only [Tm.nodes] at g5
                  simp only [List.length_append] at g2
                  obtain ⟨CS', hCS⟩ : ∃ X, hh.cs = X := ⟨_, rfl⟩
                  obtain ⟨cn, hcn⟩ : ∃ n, CS'.length = n := ⟨_, rfl⟩
                  rw [hCS] at g1 g2 y1 y3
                  rw [hcn] at y1
                  have hcx : cn ≤ 16777216 := by omega
                  obtain ⟨Ty, hTy⟩ : ∃ Ty, adds M CS' = Ty := ⟨_, rfl⟩
                  rw [hTy] at g1
                  have HG0 : Hid (adds M (CS'.drop 0) = Ty ∧ M.length + (CS'.length - 0) + (bdy hh k3 a3).length + r3.all.length ≤ 16777216) := ⟨by rw [List.drop_zero]; exact hTy, by omega⟩
                  have HY : Hid (∀ V, Kept (fun c => c < Z.heap.size ∧ c ≠ s ∧ c ≠ fc) Z V → V.cell? ⟨p, 1, none⟩ = some (.slice ca cn cc) ∧ V.cell? ⟨p, 2, none⟩ = some (.pointer (some ⟨q', 0, none⟩))) := fun V kV => ⟨HRD.out V kV p 1 _ sp y1, HRD.out V kV p 2 _ sp y4⟩
                  have HKC : Hid (∀ (M2 : List ByteArray) (V : World), M2.length + (bdy hh k3 a3).length ≤ 16777216 → CS B0 b s fc pb Z T M2 V → Calls Try.prog 27 #[.pointer (some ⟨q', 0, none⟩), .func (.func 28) #[] #[.pointer (some ⟨s, 0, none⟩), .pointer (some ⟨fc, 0, none⟩), .pointer (some ⟨pb, 0, none⟩)]] V fun e w' => (∃ v, e = .returned v) ∧ CS B0 b s fc pb Z T (adds M2 (bdy hh k3 a3)) w') := fun M2 V h1 h2 => HKI.out q' hh k3 a3 kb3 ab3 M2 V (by omega) f3 f4 f5 s1 s2 s3 z2 z3 h1 h2
                  have HG1 : Hid (adds (adds Ty (bdy hh k3 a3)) r3.all = adds (adds (adds T1 xs) ks.all) al.all ∧ Kn Z S T true r3 (ab.drop (i + 1)) ∧ r3.good ∧ r3.nodes ≤ m ∧ Cs0 true r3) := ⟨g1, f6, s4, by omega, z4⟩
                  have HIC := hide y2
                  have HNC := hide y3
                  have HCN := hide hcn
                  obtain ⟨d1, -⟩ := HY.out wr hC.out.kp
                  clear g1 g2 g5 hinv hp hbb hcc hil f1 f2 f3 f4 f5 f6 s1 s2 s3 s4 z1 z2 z3 z4 ep e1' e2' y1 y2 y3 y4 sp hcn hCS hTy
                  go_upto_region 16 with fail
                  clear p0 d1
                  go_loopw [11, 77] (fun _ s77 wr => ∃ (j : Nat) (M2 : List ByteArray), s77 = .int .i64 (j : Int) ∧ j ≤ cn ∧ Hid (adds M2 (CS'.drop j) = Ty ∧ M2.length + (CS'.length - j) + (bdy hh k3 a3).length + r3.all.length ≤ 16777216) ∧ Hid (CS B0 b s fc pb Z T M2 wr)) (fun _ s77 _ => cn - (intOf s77).toNat)
                  case atStart => exact ⟨0, M, rfl, Nat.zero_le _, HG0, hC⟩
                  case round =>
                    clear HG0 hC
                    obtain ⟨j, M2, rfl, hjn, hinv, hC⟩ := hrel
                    by_cases hj : j < cn
                    · have hjj : (j : Int) < (cn : Int) := by omega
                      have hjl : j < CS'.length := by rw [HCN.out]; exact hj
                      obtain ⟨no2, hno⟩ : ∃ n, cs'[j]? = some n := ⟨_, List.getElem?_eq_getElem (by rw [HNC.out.1]; exact hjl)⟩
                      obtain ⟨b2, rfl, hb2, hc2⟩ := HIC.out (fun e => by rw [e] at hno; simp at hno)
                      have p0 : wr.cell? ⟨b2, j, none⟩ = some (.int .i64 (no2 : Int)) := HRD.out wr hC.out.kp b2 j _ hb2 (hc2 j no2 hno)
                      obtain ⟨g3, g4⟩ := hinv.out
                      rw [List.drop_eq_getElem_cons hjl, adds_cons] at g3
                      have HCM := hide (HNT.out M2 wr no2 CS'[j] hC.out (HNC.out.2 j no2 _ hno (List.getElem?_eq_getElem hjl)) (by omega))
                      obtain ⟨M3, hM3⟩ : ∃ M3, adds M2 [CS'[j]] = M3 := ⟨_, rfl⟩
                      rw [hM3] at g3 HCM
                      have HG : Hid (adds M3 (CS'.drop (j + 1)) = Ty ∧ M3.length + (CS'.length - (j + 1)) + (bdy hh k3 a3).length + r3.all.length ≤ 16777216) := ⟨g3, by have := adds1_len M2 CS'[j]; rw [hM3] at this; omega⟩
                      clear g3 g4 hinv hM3 hno hb2 hc2 hjl hC
                      go_wp2_with (go_at_call 28; refine HCM.out.mono ?_; rintro e w2 ⟨⟨v2, rfl⟩, hc2⟩; have HC2 := hide hc2; clear hc2)
                      go_roundw
                      case rel => exact ⟨j + 1, M3, by go_num, by omega, HG, HC2⟩
                      case measure => simp [intOf]; omega
                    · have hjj : ¬ (j : Int) < (cn : Int) := by omega
                      obtain ⟨g3, g4⟩ := hinv.out
                      rw [List.drop_eq_nil_of_le (by rw [HCN.out]; omega)] at g3
                      have e3 : M2 = Ty := g3
                      subst e3
                      have HCM := hide (HKC.out M2 wr (by omega) hC.out)
                      obtain ⟨M3, hM3⟩ : ∃ M3, adds M2 (bdy hh k3 a3) = M3 := ⟨_, rfl⟩
                      rw [hM3] at HCM
                      have HG : Hid (adds M3 r3.all = adds (adds (adds T1 xs) ks.all) al.all ∧ M3.length + r3.all.length ≤ 16777216 ∧ Kn Z S T true r3 (ab.drop (i + 1)) ∧ r3.good ∧ r3.nodes ≤ m ∧ Cs0 true r3) := by
                        obtain ⟨h1, h2⟩ := HG1.out
                        rw [hM3] at h1
                        exact ⟨h1, by have := adds_len (bdy hh k3 a3) M2; rw [hM3] at this; omega, h2⟩
                      obtain ⟨-, d2⟩ := HY.out wr hC.out.kp
                      clear g3 g4 hinv hM3 hC
                      go_wp2_with (go_at_call 27; refine HCM.out.mono ?_; rintro e w2 ⟨⟨v2, rfl⟩, hc2⟩; have HC2 := hide hc2; clear hc2)
                      go_roundw
                      case rel => exact ⟨i + 1, r3, M3, by go_num, by omega, HG, HC2⟩
                      case measure => simp [intOf]; omega
              · have hii : ¬ (i : Int) < (an : Int) := by omega
                have HG : Hid (M = adds (adds (adds T1 xs) ks.all) al.all) := by
                  obtain ⟨g1, g2, g3, -, -⟩ := hinv.out
                  rw [List.drop_eq_nil_of_le (by rw [HAN.out]; omega)] at g3
                  cases r with
                  | nil => exact g1
                  | nd hh k3 a3 r3 =>
                    obtain ⟨p', q', rest, kb3, ab3, f1, -⟩ := g3
                    cases f1
                clear hinv
                go_wp2_with fail
                go_end0
                exact ⟨⟨_, rfl⟩, by rw [← HG.out]; exact hC.out⟩
  · have ho : own1 hk nm = [] := if_neg (fun e => e.2.elim e1 e2)
    have HT : Hid (T1 = L) := by unfold Hid; rw [← hT1, ho]; rfl
    have HSZ1 : Hid (L.length + xs.length + ks.all.length + al.all.length ≤ 16777216) := by have := HSZ.out; show _ ≤ _; omega
    replace e1 : (hk == 1) = false := beq_eq_false_iff_ne.2 e1
    replace e2 : (hk == 8) = false := beq_eq_false_iff_ne.2 e2
    clear ho hT1 HAD HSZ
    go_enter Try.func27, Try.ntmps27
    go_upto_region 2 with fail
    obtain ⟨-, -, c4, -, -⟩ := HQ.out w HCS.out.kp
    clear c0 c1
    go_upto_region 3 with fail
    clear c4
    go_loopw [5, 42] (fun _ s42 wr => ∃ (i : Nat) (M : List ByteArray), s42 = .int .i64 (i : Int) ∧ i ≤ nn ∧ Hid (adds M (xs.drop i) = adds T1 xs ∧ M.length + (xs.length - i) + ks.all.length + al.all.length ≤ 16777216) ∧ Hid (CS B0 b s fc pb Z T M wr)) (fun _ s42 _ => nn - (intOf s42).toNat)
    case atStart => exact ⟨0, L, rfl, Nat.zero_le _, ⟨by rw [List.drop_zero, HT.out], by have := HSZ1.out; omega⟩, HCS⟩
    case round =>
      obtain ⟨i, M, rfl, hin, hinv, hC⟩ := hrel
      by_cases hi : i < nn
      · have hii : (i : Int) < (nn : Int) := by omega
        have hil : i < xs.length := by rw [HNN.out]; exact hi
        obtain ⟨j, hj⟩ : ∃ j, ns[i]? = some j := ⟨_, List.getElem?_eq_getElem (by rw [HNU.out.1]; exact hil)⟩
        obtain ⟨bb, rfl, hbb, hcc⟩ := HIR.out (fun e => by rw [e] at hj; simp at hj)
        have p0 : wr.cell? ⟨bb, i, none⟩ = some (.int .i64 (j : Int)) := HRD.out wr hC.out.kp bb i _ hbb (hcc i j hj)
        obtain ⟨g3, g4⟩ := hinv.out
        rw [List.drop_eq_getElem_cons hil, adds_cons] at g3
        have HCN := hide (HNT.out M wr j xs[i] hC.out (HNU.out.2 i j _ hj (List.getElem?_eq_getElem hil)) (by omega))
        obtain ⟨M2, hM2⟩ : ∃ M2, adds M [xs[i]] = M2 := ⟨_, rfl⟩
        rw [hM2] at g3 HCN
        have HG : Hid (adds M2 (xs.drop (i + 1)) = adds T1 xs ∧ M2.length + (xs.length - (i + 1)) + ks.all.length + al.all.length ≤ 16777216) := ⟨g3, by have := adds1_len M xs[i]; rw [hM2] at this; omega⟩
        clear g3 g4 hinv hM2 hj hbb hcc hil hC
        go_wp2_with (go_at_call 28; refine HCN.out.mono ?_; rintro e w2 ⟨⟨v2, rfl⟩, hc2⟩; have HC2 := hide hc2; clear hc2)
        go_roundw
        case rel => exact ⟨i + 1, M2, by go_num, by omega, HG, HC2⟩
        case measure => simp [intOf]; omega
      · have hii : ¬ (i : Int) < (nn : Int) := by omega
        have HG : Hid (M = adds T1 xs ∧ M.length + ks.all.length + al.all.length ≤ 16777216) := by
          obtain ⟨g3, g4⟩ := hinv.out
          rw [List.drop_eq_nil_of_le (by rw [HNN.out]; omega)] at g3
          exact ⟨g3, by omega⟩
        obtain ⟨-, -, -, c5, -⟩ := HQ.out wr hC.out.kp
        clear hinv
        go_upto_region 8 with fail
        clear c5
        go_loopw [7, 55] (fun _ s55 wr => ∃ (i : Nat) (r : Tm) (M : List ByteArray), s55 = .int .i64 (i : Int) ∧ i ≤ kn ∧ Hid (adds M r.all = adds (adds T1 xs) ks.all ∧ M.length + r.all.length + al.all.length ≤ 16777216 ∧ Kn Z S T false r (kb.drop i) ∧ r.good ∧ r.nodes ≤ m ∧ Cs0 false r) ∧ Hid (CS B0 b s fc pb Z T M wr)) (fun _ s55 _ => kn - (intOf s55).toNat)
        case atStart => exact ⟨0, ks, M, rfl, Nat.zero_le _, ⟨by rw [HG.out.1], by have := HG.out.2; omega, by rw [List.drop_zero]; exact HKS.out, HGK.out, HM.out.1, HCK.out⟩, hC⟩
        case round =>
          clear HG hC
          obtain ⟨i, r, M, rfl, hin, hinv, hC⟩ := hrel
          by_cases hi : i < kn
          · have hii : (i : Int) < (kn : Int) := by omega
            have hil : i < kb.length := by rw [HKN.out]; exact hi
            obtain ⟨g1, g2, g3, g4, g5, g6⟩ := hinv.out
            rw [List.drop_eq_getElem_cons hil] at g3
            obtain ⟨p, hp⟩ : ∃ p, kb[i]? = some p := ⟨_, List.getElem?_eq_getElem hil⟩
            obtain ⟨bb, rfl, hbb, hcc⟩ := HPK.out (fun e => by rw [e] at hil; simp at hil)
            have p0 : wr.cell? ⟨bb, i, none⟩ = some (.pointer (some ⟨p, 0, none⟩)) := HRD.out wr hC.out.kp bb i _ hbb (hcc i p hp)
            have ep : kb[i] = p := by rw [List.getElem?_eq_getElem hil] at hp; exact Option.some.inj hp
            rw [ep] at g3
            cases r with
            | nil => exact absurd g3 (by simp [Kn])
            | nd hh k3 a3 r3 =>
              obtain ⟨p', q', rest, kb3, ab3, f1, f2, f3, f4, f5, f6⟩ := g3
              have e1' : p = p' := by injection f1
              have e2' : kb.drop (i + 1) = rest := by injection f1
              have e3' : p' = q' := f2
              rw [← e2'] at f6
              rw [← e3', ← e1'] at f3
              obtain ⟨s1, s2, s3, s4⟩ := g4
              rw [all_nd] at g1 g2
              rw [adds_append, adds_append] at g1
              simp only [Tm.nodes] at g5
              simp only [List.length_append] at g2
              obtain ⟨z1, z2, z3, z4⟩ := g6
              have hcs0 : hh.cs = [] := z1 rfl
              rw [hcs0] at g1 g2
              replace g1 : adds (adds M (bdy hh k3 a3)) r3.all = adds (adds T1 xs) ks.all := g1
              have HCN := hide (HKI.out p hh k3 a3 kb3 ab3 M wr (by omega) f3 f4 f5 s1 s2 s3 z2 z3 (by simp only [List.length_nil] at g2; omega) hC.out)
              obtain ⟨M2, hM2⟩ : ∃ M2, adds M (bdy hh k3 a3) = M2 := ⟨_, rfl⟩
              rw [hM2] at g1 HCN
              have HG : Hid (adds M2 r3.all = adds (adds T1 xs) ks.all ∧ M2.length + r3.all.length + al.all.length ≤ 16777216 ∧ Kn Z S T false r3 (kb.drop (i + 1)) ∧ r3.good ∧ r3.nodes ≤ m ∧ Cs0 false r3) := ⟨g1, by have := adds_len (bdy hh k3 a3) M; rw [hM2] at this; simp only [List.length_nil] at g2; omega, f6, s4, by omega, z4⟩
              clear g1 g2 g5 hinv hM2 hp hbb hcc hil hC z1 z2 z3 z4 f1 f2 f3 f4 f5 f6 s1 s2 s3 s4 ep e1' e2' e3' hcs0
              go_wp2_with (go_at_call 27; refine HCN.out.mono ?_; rintro e w2 ⟨⟨v2, rfl⟩, hc2⟩; have HC2 := hide hc2; clear hc2)
              go_roundw
              case rel => exact ⟨i + 1, r3, M2, by go_num, by omega, HG, HC2⟩
              case measure => simp [intOf]; omega
          · have hii : ¬ (i : Int) < (kn : Int) := by omega
            have HG : Hid (M = adds (adds T1 xs) ks.all ∧ M.length + al.all.length ≤ 16777216) := by
              obtain ⟨g1, g2, g3, -, -⟩ := hinv.out
              rw [List.drop_eq_nil_of_le (by rw [HKN.out]; omega)] at g3
              cases r with
              | nil => exact ⟨g1, by simp only [Tm.all, List.length_nil] at g2; omega⟩
              | nd hh k3 a3 r3 =>
                obtain ⟨p', q', rest, kb3, ab3, f1, -⟩ := g3
                cases f1
            obtain ⟨-, -, -, -, c6⟩ := HQ.out wr hC.out.kp
            clear hinv
            go_upto_region 13 with fail
            clear c6
            go_loopw [9, 11, 68] (fun _ _ s68 wr => ∃ (i : Nat) (r : Tm) (M : List ByteArray), s68 = .int .i64 (i : Int) ∧ i ≤ an ∧ Hid (adds M r.all = adds (adds (adds T1 xs) ks.all) al.all ∧ M.length + r.all.length ≤ 16777216 ∧ Kn Z S T true r (ab.drop i) ∧ r.good ∧ r.nodes ≤ m ∧ Cs0 true r) ∧ Hid (CS B0 b s fc pb Z T M wr)) (fun _ _ s68 _ => an - (intOf s68).toNat)
            case atStart => exact ⟨0, al, M, rfl, Nat.zero_le _, ⟨by rw [HG.out.1], by have := HG.out.2; omega, by rw [List.drop_zero]; exact HAL.out, HGA.out, HM.out.2, HCA.out⟩, hC⟩
            case round =>
              clear HG hC
              obtain ⟨i, r, M, rfl, hin, hinv, hC⟩ := hrel
              by_cases hi : i < an
              · have hii : (i : Int) < (an : Int) := by omega
                have hil : i < ab.length := by rw [HAN.out]; exact hi
                obtain ⟨g1, g2, g3, g4, g5, g6⟩ := hinv.out
                rw [List.drop_eq_getElem_cons hil] at g3
                obtain ⟨p, hp⟩ : ∃ p, ab[i]? = some p := ⟨_, List.getElem?_eq_getElem hil⟩
                obtain ⟨bb, rfl, hbb, hcc⟩ := HPA.out (fun e => by rw [e] at hil; simp at hil)
                have p0 : wr.cell? ⟨bb, i, none⟩ = some (.pointer (some ⟨p, 0, none⟩)) := HRD.out wr hC.out.kp bb i _ hbb (hcc i p hp)
                have ep : ab[i] = p := by rw [List.getElem?_eq_getElem hil] at hp; exact Option.some.inj hp
                rw [ep] at g3
                cases r with
                | nil => exact absurd g3 (by simp [Kn])
                | nd hh k3 a3 r3 =>
                  obtain ⟨p', q', rest, kb3, ab3, f1, f2, f3, f4, f5, f6⟩ := g3
                  have e1' : p = p' := by injection f1
                  have e2' : ab.drop (i + 1) = rest := by injection f1
                  replace f2 : AltAt Z S T p' hh q' := f2
                  rw [← e2'] at f6
                  rw [← e1'] at f2
                  obtain ⟨s1, s2, s3, s4⟩ := g4
                  obtain ⟨z1, z2, z3, z4⟩ := g6
                  obtain ⟨ca, cc, cs', y1, y2, y3⟩ := f2.ns
                  have sp := f2.at_
                  have y4 := f2.body
                  rw [all_nd] at g1 g2
                  rw [adds_append, adds_append] at g1
                  simp only [Tm.nodes] at g5
                  simp only [List.length_append] at g2
                  obtain ⟨CS', hCS⟩ : ∃ X, hh.cs = X := ⟨_, rfl⟩
                  obtain ⟨cn, hcn⟩ : ∃ n, CS'.length = n := ⟨_, rfl⟩
                  rw [hCS] at g1 g2 y1 y3
                  rw [hcn] at y1
                  have hcx : cn ≤ 16777216 := by omega
                  obtain ⟨Ty, hTy⟩ : ∃ Ty, adds M CS' = Ty := ⟨_, rfl⟩
                  rw [hTy] at g1
                  have HG0 : Hid (adds M (CS'.drop 0) = Ty ∧ M.length + (CS'.length - 0) + (bdy hh k3 a3).length + r3.all.length ≤ 16777216) := ⟨by rw [List.drop_zero]; exact hTy, by omega⟩
                  have HY : Hid (∀ V, Kept (fun c => c < Z.heap.size ∧ c ≠ s ∧ c ≠ fc) Z V → V.cell? ⟨p, 1, none⟩ = some (.slice ca cn cc) ∧ V.cell? ⟨p, 2, none⟩ = some (.pointer (some ⟨q', 0, none⟩))) := fun V kV => ⟨HRD.out V kV p 1 _ sp y1, HRD.out V kV p 2 _ sp y4⟩
                  have HKC : Hid (∀ (M2 : List ByteArray) (V : World), M2.length + (bdy hh k3 a3).length ≤ 16777216 → CS B0 b s fc pb Z T M2 V → Calls Try.prog 27 #[.pointer (some ⟨q', 0, none⟩), .func (.func 28) #[] #[.pointer (some ⟨s, 0, none⟩), .pointer (some ⟨fc, 0, none⟩), .pointer (some ⟨pb, 0, none⟩)]] V fun e w' => (∃ v, e = .returned v) ∧ CS B0 b s fc pb Z T (adds M2 (bdy hh k3 a3)) w') := fun M2 V h1 h2 => HKI.out q' hh k3 a3 kb3 ab3 M2 V (by omega) f3 f4 f5 s1 s2 s3 z2 z3 h1 h2
                  have HG1 : Hid (adds (adds Ty (bdy hh k3 a3)) r3.all = adds (adds (adds T1 xs) ks.all) al.all ∧ Kn Z S T true r3 (ab.drop (i + 1)) ∧ r3.good ∧ r3.nodes ≤ m ∧ Cs0 true r3) := ⟨g1, f6, s4, by omega, z4⟩
                  have HIC := hide y2
                  have HNC := hide y3
                  have HCN := hide hcn
                  obtain ⟨d1, -⟩ := HY.out wr hC.out.kp
                  clear g1 g2 g5 hinv hp hbb hcc hil f1 f2 f3 f4 f5 f6 s1 s2 s3 s4 z1 z2 z3 z4 ep e1' e2' y1 y2 y3 y4 sp hcn hCS hTy
                  go_upto_region 16 with fail
                  clear p0 d1
                  go_loopw [11, 77] (fun _ s77 wr => ∃ (j : Nat) (M2 : List ByteArray), s77 = .int .i64 (j : Int) ∧ j ≤ cn ∧ Hid (adds M2 (CS'.drop j) = Ty ∧ M2.length + (CS'.length - j) + (bdy hh k3 a3).length + r3.all.length ≤ 16777216) ∧ Hid (CS B0 b s fc pb Z T M2 wr)) (fun _ s77 _ => cn - (intOf s77).toNat)
                  case atStart => exact ⟨0, M, rfl, Nat.zero_le _, HG0, hC⟩
                  case round =>
                    clear HG0 hC
                    obtain ⟨j, M2, rfl, hjn, hinv, hC⟩ := hrel
                    by_cases hj : j < cn
                    · have hjj : (j : Int) < (cn : Int) := by omega
                      have hjl : j < CS'.length := by rw [HCN.out]; exact hj
                      obtain ⟨no2, hno⟩ : ∃ n, cs'[j]? = some n := ⟨_, List.getElem?_eq_getElem (by rw [HNC.out.1]; exact hjl)⟩
                      obtain ⟨b2, rfl, hb2, hc2⟩ := HIC.out (fun e => by rw [e] at hno; simp at hno)
                      have p0 : wr.cell? ⟨b2, j, none⟩ = some (.int .i64 (no2 : Int)) := HRD.out wr hC.out.kp b2 j _ hb2 (hc2 j no2 hno)
                      obtain ⟨g3, g4⟩ := hinv.out
                      rw [List.drop_eq_getElem_cons hjl, adds_cons] at g3
                      have HCM := hide (HNT.out M2 wr no2 CS'[j] hC.out (HNC.out.2 j no2 _ hno (List.getElem?_eq_getElem hjl)) (by omega))
                      obtain ⟨M3, hM3⟩ : ∃ M3, adds M2 [CS'[j]] = M3 := ⟨_, rfl⟩
                      rw [hM3] at g3 HCM
                      have HG : Hid (adds M3 (CS'.drop (j + 1)) = Ty ∧ M3.length + (CS'.length - (j + 1)) + (bdy hh k3 a3).length + r3.all.length ≤ 16777216) := ⟨g3, by have := adds1_len M2 CS'[j]; rw [hM3] at this; omega⟩
                      clear g3 g4 hinv hM3 hno hb2 hc2 hjl hC
                      go_wp2_with (go_at_call 28; refine HCM.out.mono ?_; rintro e w2 ⟨⟨v2, rfl⟩, hc2⟩; have HC2 := hide hc2; clear hc2)
                      go_roundw
                      case rel => exact ⟨j + 1, M3, by go_num, by omega, HG, HC2⟩
                      case measure => simp [intOf]; omega
                    · have hjj : ¬ (j : Int) < (cn : Int) := by omega
                      obtain ⟨g3, g4⟩ := hinv.out
                      rw [List.drop_eq_nil_of_le (by rw [HCN.out]; omega)] at g3
                      have e3 : M2 = Ty := g3
                      subst e3
                      have HCM := hide (HKC.out M2 wr (by omega) hC.out)
                      obtain ⟨M3, hM3⟩ : ∃ M3, adds M2 (bdy hh k3 a3) = M3 := ⟨_, rfl⟩
                      rw [hM3] at HCM
                      have HG : Hid (adds M3 r3.all = adds (adds (adds T1 xs) ks.all) al.all ∧ M3.length + r3.all.length ≤ 16777216 ∧ Kn Z S T true r3 (ab.drop (i + 1)) ∧ r3.good ∧ r3.nodes ≤ m ∧ Cs0 true r3) := by
                        obtain ⟨h1, h2⟩ := HG1.out
                        rw [hM3] at h1
                        exact ⟨h1, by have := adds_len (bdy hh k3 a3) M2; rw [hM3] at this; omega, h2⟩
                      obtain ⟨-, d2⟩ := HY.out wr hC.out.kp
                      clear g3 g4 hinv hM3 hC
                      go_wp2_with (go_at_call 27; refine HCM.out.mono ?_; rintro e w2 ⟨⟨v2, rfl⟩, hc2⟩; have HC2 := hide hc2; clear hc2)
                      go_roundw
                      case rel => exact ⟨i + 1, r3, M3, by go_num, by omega, HG, HC2⟩
                      case measure => simp [intOf]; omega
              · have hii : ¬ (i : Int) < (an : Int) := by omega
                have HG : Hid (M = adds (adds (adds T1 xs) ks.all) al.all) := by
                  obtain ⟨g1, g2, g3, -, -⟩ := hinv.out
                  rw [List.drop_eq_nil_of_le (by rw [HAN.out]; omega)] at g3
                  cases r with
                  | nil => exact g1
                  | nd hh k3 a3 r3 =>
                    obtain ⟨p', q', rest, kb3, ab3, f1, -⟩ := g3
                    cases f1
                clear hinv
                go_wp2_with fail
                go_end0
                exact ⟨⟨_, rfl⟩, by rw [← HG.out]; exact hC.out⟩

end Go.Proofs.Ytcnokpaicnjkfaa.F
