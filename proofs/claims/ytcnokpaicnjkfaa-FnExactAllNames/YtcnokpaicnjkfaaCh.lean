import Derived.Test.YtcnokpaicnjkfaaJG
import Derived.Test.YtcnokpaicnjkfaaUv
namespace Go.Proofs.Ytcnokpaicnjkfaa
open Go.RowKit Go.Joins

theorem Try.info9 : (Try.prog.info? 9).map (fun i => (i.zero, i.size, i.bytes)) = some (some (.string ⟨#[]⟩), 1, 16) := by kernel_rfl

theorem own_lt {w : World} {B : Nat} {v : Value} {n : Nat} {xs : List Value} (h : w.ownsRow B 9 1 v n xs) : ∀ c, v.ownBlock = some c → c < w.heap.size := fun c hc => (World.ownsRow.lt h c hc).2

theorem sr_row {W : World} {B : Nat} {v : Value} {n : Nat} {L : List ByteArray} (h : W.ownsRow B 9 1 v n (L.map Value.string)) : ∃ a c, v = .slice a n c ∧ n = L.length ∧ SR W (fun b => b < W.heap.size) a c L := by
  have hl := h.1
  rw [List.length_map, Nat.mul_one] at hl
  rcases h.2 with ⟨rfl, rfl⟩ | ⟨g, cap, cur, rfl, hb, hg, hnc, hcm, hcs, ht⟩
  · have e : L = [] := List.length_eq_zero_iff.1 hl
    subst e
    exact ⟨none, 0, rfl, rfl, SR.nil _ _ _ _ (Nat.zero_le _)⟩
  · refine ⟨_, cap, rfl, hl.symm, ⟨by omega, hcm, fun _ => ⟨g, 0, rfl, (Array.getElem?_eq_some_iff.1 hg).1, fun i x hx => ?_⟩⟩⟩
    have h2 := h.cells (g := g) rfl i (.string x) (by rw [List.getElem?_map, hx]; rfl)
    rwa [addr_add] at h2

/-- A row of texts of our own, behind what was there. -/
structure KW (V0 wr : World) (v : Value) (L : List ByteArray) : Prop where
  own : wr.ownsRow 0 9 1 v L.length (L.map Value.string)
  hi : ∀ c, v.ownBlock = some c → V0.heap.size ≤ c
  kp : Kept (fun c => c < V0.heap.size) V0 wr

theorem KW.keep {V0 wr wx : World} {v : Value} {L : List ByteArray} (h : KW V0 wr v L) (k : Kept (fun _ => True) wr wx) : KW V0 wx v L :=
  ⟨ownsRow_kept h.own k (fun _ _ => trivial), h.hi, h.kp.trans (k.mono (fun _ _ _ => trivial))⟩

theorem KW.grow {V0 wr V w3 : World} {v : Value} {L : List ByteArray} {g cap : Nat} {s : ByteArray} (h : KW V0 wr v L) (k : Kept (fun _ => True) wr V) (hO : w3.ownsRow 0 9 1 (.slice (some ⟨g, 0, none⟩) (L.length + 1) cap) (L.length + 1) (L.map Value.string ++ [.string s])) (hG : V.grownBy w3 v.ownBlock) (hat : v.ownBlock = some g ∨ g = V.heap.size) :
    KW V0 w3 (.slice (some ⟨g, 0, none⟩) (L.length + 1) cap) (L ++ [s]) := by
  have h' := h.keep k
  have kg : Kept (fun c => v.ownBlock ≠ some c) V w3 := Kept.grown hG (fun c hc e => e hc)
  have hz := h'.kp.size
  refine ⟨by simpa using hO, fun c hc => ?_, h'.kp.trans (kg.mono (fun c _ hc e => by have := h.hi c e; omega))⟩
  have e : g = c := Option.some.inj hc
  subst e
  rcases hat with e | e
  · exact h.hi g e
  · omega

theorem KW.empty (W : World) : KW W (W.alloc (.cells #[] 9)) (.slice (some ⟨W.heap.size, 0, none⟩) 0 0) [] :=
  ⟨⟨rfl, .inr ⟨W.heap.size, 0, #[], rfl, Nat.zero_le _, (MapKept.heap_alloc W _).1, Nat.le_refl _, Nat.zero_le _, rfl, rfl⟩⟩, fun c hc => by have e : W.heap.size = c := Option.some.inj hc; omega, Kept.alloc _ _ _⟩

theorem KW.sr {V0 wr : World} {v : Value} {L : List ByteArray} (h : KW V0 wr v L) : ∃ a c, v = .slice a L.length c ∧ SR wr (fun b => b < wr.heap.size) a c L := by
  obtain ⟨a, c, e, -, hs⟩ := sr_row h.own
  exact ⟨a, c, e, hs⟩

theorem altR {x : Fo} (hx : Fit E x (E 2)) (q : Fo) : ∃ (con : ByteArray) (ca : Option Addr) (cn cc : Nat) (ck y : Fo), x = .v (.string con) (.s ca cn cc ck y) ∧ con.size ≤ maxLen ∧ Fit E ck (rep (E 1) cn) ∧ Fit E y (E 3) ∧ (rdA (x.app q)).cons = con :: (rdA q).cons ∧ ((rdA (x.app q)).anm ↔ okNames (rdS ck) ∧ (rdA q).anm) ∧ (rdA (x.app q)).len = (rdA q).len + 1 := by
  obtain ⟨con, ca, cn, cc, ck, y, rfl, hcs, h1, hy⟩ := alt_open hx
  refine ⟨con, ca, cn, cc, ck, y, rfl, hcs, h1, hy, ?_⟩
  obtain ⟨k, nm, mn, la, ln, lc, lk, na, nn, nc, nk, ka, kn, kc, kk, aa, an, ac, ak, rfl, -⟩ := core_open hy
  simp only [Fo.app]
  rw [rdA_nd]
  exact ⟨rfl, Iff.rfl, rfl⟩

theorem rdA_len : ∀ (n : Nat) (F : Fo), Fit E F (rep (E 2) n) → (rdA F).len = n
  | 0, F, h => by rw [fit_nil h, rdA_nil]; rfl
  | n + 1, F, h => by
    obtain ⟨x, q, rfl, hx, hq, -⟩ := Fit.split (fs := E 2) (gs := rep (E 2) n) h
    obtain ⟨con, ca, cn, cc, ck, y, -, -, -, -, -, -, e⟩ := altR hx q
    rw [e, rdA_len n q hq]

theorem rdK_len : ∀ (n : Nat) (F : Fo), Fit E F (rep (E 3) n) → (rdK F).len = n
  | 0, F, h => by rw [fit_nil h, rdK_nil]; rfl
  | n + 1, F, h => by
    obtain ⟨x, q, rfl, hx, hq, -⟩ := Fit.split (fs := E 3) (gs := rep (E 3) n) h
    obtain ⟨k, nm, mn, la, ln, lc, lk, na, nn, nc, nk, ka, kn, kc, kk, aa, an, ac, ak, rfl, -⟩ := core_open hx
    simp only [Fo.app]
    rw [rdK_nd]
    simp only [Tm.len, rdK_len n q hq]

theorem text_facts {y : ByteArray} (h : ¬ y.toList = []) : y.toList.isEmpty = false ∧ (y.toList == []) = false := by
  cases hh : y.toList with
  | nil => exact absurd hh h
  | cons _ _ => exact ⟨rfl, rfl⟩

set_option maxHeartbeats 4000000 in
set_option maxRecDepth 100000 in
theorem ms_8b (nm : ByteArray) (la na ka aa : Option Addr) (lc nc kn kc an ac : Nat) (ak : Fo) (W : World) (nb : Nat) (hnb : nb ≤ W.heap.size) (han : an ≤ 1048576) (hak : Fit E ak (rep (E 2) an)) (hsa : ak.Sub W (fun b => b < nb) aa an ac) (q : Bool) (hq : (∀ c ∈ (rdA ak).cons, ¬ c = ⟨#[]⟩) ∧ (rdA ak).anm ∧ (rdA ak).cons.Nodup ↔ q = true) (hk : (kn = 1 ∧ ((an : Int) == 0) = false) ∨ kn = 2) :
    Calls Try.prog 53 #[.agg #[.int .i64 8, .string nm, .bool false, .slice la 0 lc, .slice na 0 nc, .slice ka kn kc, .slice aa an ac]] W fun e W' => e = .returned (.bool q) ∧ Below W.heap.size W W' := by
  have HQ := hide hq
  obtain ⟨V0, hV0⟩ : ∃ V, W.alloc (.cells #[.int .i64 8, .string nm, .bool false, .slice la 0 lc, .slice na 0 nc, .slice ka kn kc, .slice aa an ac] 36) = V := ⟨_, rfl⟩
  have b0 : Below W.heap.size W V0 := by rw [← hV0]; exact below_alloc1 _ _
  have z0 : V0.heap.size = W.heap.size + 1 := by rw [← hV0]; simp
  have q0 : Bx V0 W.heap.size [.int .i64 8, .string nm, .bool false, .slice la 0 lc, .slice na 0 nc, .slice ka kn kc, .slice aa an ac] := by rw [← hV0]; exact Bx.new _ _ _
  have HRA : Hid (∀ V, Kept (fun c => c < V0.heap.size) V0 V → Rd E (E 2) an nb aa 0 ak V) := fun V k => ((Rd.start hak hsa).below b0 hnb).kept k (by omega) (fun c hc => by show c < _; omega)
  have HQL := hide (fun (V : World) (k : Kept (fun c => c < V0.heap.size) V0 V) => q0.kept k (by show W.heap.size < _; omega))
  have HBW : Hid (∀ V, Kept (fun c => c < V0.heap.size) V0 V → Below W.heap.size W V) := fun V k => Below.kept b0 k (fun c hc => by show c < _; omega) (Nat.le_refl _)
  have HKE : Hid (KW V0 (V0.alloc (.cells #[] 9)) (.slice (some ⟨V0.heap.size, 0, none⟩) 0 0) []) := KW.empty V0
  have HV0 := hide hV0
  have HB0 := hide b0
  have HNB : Hid (nb ≤ V0.heap.size) := by show _ ≤ _; omega
  clear hV0 b0 z0 q0 hq hsa hak hnb
  have c5 := (HQL.out V0 (Kept.refl _ _)).cel 5 _ rfl
  have c6 := (HQL.out V0 (Kept.refl _ _)).cel 6 _ rfl
  have c3 := (HQL.out V0 (Kept.refl _ _)).cel 3 _ rfl
  have c4 := (HQL.out V0 (Kept.refl _ _)).cel 4 _ rfl
  have c2 := (HQL.out V0 (Kept.refl _ _)).cel 2 _ rfl
  have c0 := (HQL.out V0 (Kept.refl _ _)).cel 0 _ rfl
  rcases hk with ⟨rfl, ga⟩ | rfl
  all_goals
    go_enter Try.func53, Try.ntmps53
    go_upto_region 1 with fail
    rw [HV0.out]
    clear HV0
    go_upto_region 27 with fail
    generalize V0.alloc (.cells #[] 9) = V1 at *
    generalize V0.heap.size = bz at HKE ⊢
    go_wp2_with fail
    go_loopw [6, 7] (fun s6 s7 wr => ∃ (i : Nat) (r : Fo) (L : List ByteArray) (a : Option Addr) (n c : Nat), s6 = .slice a n c ∧ s7 = .int .i64 i ∧ i ≤ an ∧ Hid (n = L.length ∧ L.length = i) ∧ Hid (L ++ (rdA r).cons = (rdA ak).cons ∧ ((rdA ak).anm ↔ (rdA r).anm) ∧ ∀ c ∈ L, ¬ c = ⟨#[]⟩) ∧ Hid (Rd E (E 2) an nb aa i r wr) ∧ Hid (KW V0 wr (.slice a n c) L)) (fun _ s7 _ => an - (intOf s7).toNat)
    case atStart => exact ⟨0, ak, [], _, _, _, rfl, rfl, Nat.zero_le _, ⟨rfl, rfl⟩, ⟨rfl, Iff.rfl, fun c hc => absurd hc List.not_mem_nil⟩, HRA.out _ HKE.out.kp, HKE⟩
    case round =>
      clear c5 c6 c3 c4 c2 c0 HKE
      obtain ⟨i, r, L, ca0, n, c, rfl, rfl, hin, hlen, hinv, hRd, hKW⟩ := hrel
      have c6 := (HQL.out wr hKW.out.kp).cel 6 _ rfl
      by_cases hi : i < an
      · obtain ⟨x, rr, b, o, rfl, hx, rfl, hb, hc, hxs, hR1⟩ := hRd.out.next hi (by decide)
        obtain ⟨con, ca, cn, cc, ck, y, rfl, hcz, hck, -, e1, e2, -⟩ := altR hx rr
        obtain ⟨g1, g2, g3⟩ := hinv.out
        rw [e1] at g1
        rw [e2] at g2
        have hii : (i : Int) < an := by omega
        have HNZ := HNB.out
        have HKZ := hKW.out.kp.size
        have HP : Hid (∀ V, Below wr.heap.size wr V → V.cell? ⟨b, o + i * 9, none⟩ = some (.string con) ∧ V.cell? ⟨W.heap.size, 6, none⟩ = some (.slice (some ⟨b, o, none⟩) an ac)) := fun V bV => ⟨(hc.below bV (by omega)) 0 _ rfl, (HQL.out V (hKW.out.kp.trans (kt bV))).cel 6 _ rfl⟩
        have p0 := (HP.out wr (Below.refl _ _)).1
        have p1 : wr.cell? ⟨b, o + i * 9 + 1, none⟩ = some (.slice ca cn cc) := hc 1 _ rfl
        obtain ⟨hsr, hln⟩ := sr_of hck hxs.1
        obtain ⟨q2, hq2⟩ : ∃ q2 : Bool, q2 = true ↔ okNames (rdS ck) := by
          by_cases h : okNames (rdS ck)
          · exact ⟨true, by simp [h]⟩
          · exact ⟨false, by simp [h]⟩
        have HC := hide (m_names ca cc (rdS ck) wr nb (by omega) hsr q2 hq2)
        rw [hln] at HC
        have HQ2 := hide hq2
        have HG1 := hide g1
        have HG2 := hide g2
        have HG3 := hide g3
        have HR1 := hide hR1
        clear hc hxs hx hck hsr hln hq2 g1 g2 g3 hR1 e1 e2 hinv hRd HNZ HKZ
        by_cases g : con.toList = []
        · have HF : Hid (q = false) := by
            cases hqq : q with
            | false => rfl
            | true => exact absurd ((empty_iff con).1 g) ((HQ.out.2 hqq).1 con (by rw [← HG1.out]; simp))
          have g' : con.toList.isEmpty = true := by rw [g]; rfl
          clear HC HG1
          go_wp2_with fail
          go_ret
          exact ⟨by rw [HF.out]; rfl, HBW.out wr hKW.out.kp⟩
        · obtain ⟨ga1, ga2⟩ := text_facts g
          go_wp2_with fail
          refine HC.out.mono ?_
          rintro e w1 ⟨rfl, b1⟩
          clear HC
          have HK1 := hide (hKW.out.keep (kt b1))
          cases q2 with
          | false =>
            have HF : Hid (q = false) := by
              cases hqq : q with
              | false => rfl
              | true =>
                have h1 := HG2.out.1 (HQ.out.2 hqq).2.1
                exact absurd (HQ2.out.2 h1.1) (by simp)
            clear b1 HG1 HG2
            go_wp2_with fail
            go_ret
            exact ⟨by rw [HF.out]; rfl, HBW.out w1 HK1.out.kp⟩
          | true =>
            obtain ⟨p2, p3⟩ := HP.out w1 b1
            have HRn := hide (HR1.out.below b1 (by have := HNB.out; have := hKW.out.kp.size; omega))
            obtain ⟨V5, hV5⟩ : ∃ V, w1.alloc (.cells #[.string con] 9) = V := ⟨_, rfl⟩
            have k5 : Kept (fun _ => True) w1 V5 := by rw [← hV5]; exact Kept.alloc _ _ _
            have HBL : Hid (V5.heap[w1.heap.size]? = some (.cells [Value.string con].toArray 9)) := by unfold Hid; rw [← hV5]; exact (MapKept.heap_alloc w1 _).1
            have e1 := hlen.out.1
            have HOS : Hid (V5.ownsRow 0 9 1 (.slice ca0 n c) n (L.map Value.string)) := by
              have h := (HK1.out.keep k5).own
              rw [← e1] at h
              exact h
            have H63 : Hid (n + 1 ≤ maxLen ∧ (n + 1) * 16 ≤ 140737488355328) := by
              have h := hlen.out.2
              unfold Hid maxLen
              omega
            have HEND : Hid (∀ g5 q5 w5, w5.ownsRow 0 9 1 (.slice (some ⟨g5, 0, none⟩) (n + 1) q5) (n + 1) (L.map Value.string ++ [.string con]) → V5.grownBy w5 (Value.slice ca0 n c).ownBlock → ((Value.slice ca0 n c).ownBlock = some g5 ∨ g5 = V5.heap.size) → KW V0 w5 (.slice (some ⟨g5, 0, none⟩) (n + 1) q5) (L ++ [con]) ∧ Rd E (E 2) an nb (some ⟨b, o, none⟩) (i + 1) rr w5) := fun g5 q5 w5 hO hG hat => by
              have h := KW.grow (g := g5) (cap := q5) (s := con) HK1.out k5 (by rw [← e1]; exact hO) hG hat
              rw [← e1] at h
              refine ⟨h, HRn.out.kept (k5.mono (fun c _ (_ : c < nb) => trivial) |>.trans (Kept.grown hG (fun c' hc' hlt => ?_))) (by have := HNB.out; have := HK1.out.kp.size; omega) (fun c hc => hc)⟩
              have := HK1.out.hi c' hc'
              have := HNB.out
              omega
            have HRES : Hid (n + 1 = (L ++ [con]).length ∧ (L ++ [con]).length = i + 1) := by
              have h := hlen.out
              refine ⟨by simp; omega, by simp; omega⟩
            have HINV : Hid ((L ++ [con]) ++ (rdA rr).cons = (rdA ak).cons ∧ ((rdA ak).anm ↔ (rdA rr).anm) ∧ ∀ c ∈ L ++ [con], ¬ c = ⟨#[]⟩) := by
              refine ⟨by rw [← HG1.out]; simp, ⟨fun h => (HG2.out.1 h).2, fun h => HG2.out.2 ⟨HQ2.out.1 rfl, h⟩⟩, fun c hc => ?_⟩
              rcases List.mem_append.1 hc with h | h
              · exact HG3.out c h
              · rw [List.mem_singleton.1 h]
                exact fun e => g ((empty_iff con).2 e)
            have HV5 := hide hV5
            clear b1 hV5 k5 e1 HG1 HG2 HG3 hlen p0 p1
            go_wp2_with (at_builtin; rw [HV5.out]; refine ur_stepL rfl _ _ 25 9 rfl Try.info9 Try.underlying25 rfl (by decide) 0 V5 (.slice ca0 n c) n (L.map Value.string) [.string con] w1.heap.size 1 rfl rfl (Nat.zero_le _) HOS.out HBL.out rfl (by simp [Value.oneCell']) H63.out.1 H63.out.2 ?_; rintro g5 q5 w5 hO5 hG5 hat5; have HE5 := hide (HEND.out g5 q5 w5 hO5 hG5 hat5); clear hO5 hG5 hat5)
            go_roundw
            case rel => exact ⟨i + 1, rr, L ++ [con], _, _, _, rfl, by go_num, by omega, HRES, HINV, HE5.out.2, HE5.out.1⟩
            case measure => simp [intOf]; omega
      · obtain ⟨rfl, rfl⟩ := hRd.out.done hi
        obtain ⟨g1, g2, g3⟩ := hinv.out
        rw [rdA_nil] at g1 g2
        simp only [Tm.cons, List.append_nil] at g1
        obtain ⟨q2, hq2⟩ : ∃ q2 : Bool, q2 = true ↔ ¬ L.Nodup := by
          by_cases h : L.Nodup
          · exact ⟨false, by simp [h]⟩
          · exact ⟨true, by simp [h]⟩
        have HF : Hid ((!q2) = q) := by
          show (!q2) = q
          have h1 := HQ.out
          rw [← g1] at h1
          by_cases hL : L.Nodup
          · rw [h1.1 ⟨g3, g2.2 trivial, hL⟩]
            cases q2 with
            | false => rfl
            | true => exact absurd hL (hq2.1 rfl)
          · rw [hq2.2 hL]
            cases hqq : q with
            | false => rfl
            | true => exact absurd (h1.2 hqq).2.2 hL
        have HTW : Hid (Calls Try.prog 60 #[.slice ca0 n c] wr fun e W' => e = .returned (.bool q2) ∧ Below wr.heap.size wr W') := by
          have h := hKW.out.own
          have e := hlen.out.1
          obtain ⟨a', c', e', -, hs⟩ := sr_row h
          cases e'
          rw [e]
          exact m_twice ca0 c L wr wr.heap.size (Nat.le_refl _) hs q2 hq2
        clear g1 g2 g3 hq2 hinv hRd hlen
        have hii : ¬ (i : Int) < i := by omega
        go_wp2_with fail
        refine HTW.out.mono ?_
        rintro e w1 ⟨rfl, b1⟩
        have HK1 := hide (hKW.out.keep (kt b1))
        clear b1 HTW
        go_wp2_with fail
        go_ret
        exact ⟨by rw [← HF.out]; rfl, HBW.out w1 HK1.out.kp⟩

set_option maxHeartbeats 4000000 in
set_option maxRecDepth 100000 in
theorem ms_8 (nm : ByteArray) (mn : Bool) (la na ka aa : Option Addr) (lc nc kn kc an ac : Nat) (lm : List Int) (ns : List ByteArray) (ak : Fo) (W : World) (nb : Nat) (hnb : nb ≤ W.heap.size) (hl : LR W (fun b => b < nb) la lc lm) (hn : SR W (fun b => b < nb) na nc ns) (hkn : kn ≤ maxLen) (han : an ≤ 1048576) (hak : Fit E ak (rep (E 2) an)) (hsa : ak.Sub W (fun b => b < nb) aa an ac) (q : Bool) (hq : q = true ↔ shp ⟨⟨#[]⟩, [], 8, nm, mn, lm, ns⟩ kn (rdA ak)) :
    Calls Try.prog 53 #[.agg #[.int .i64 8, .string nm, .bool mn, .slice la lm.length lc, .slice na ns.length nc, .slice ka kn kc, .slice aa an ac]] W fun e W' => e = .returned (.bool q) ∧ Below W.heap.size W W' := by
  rw [shp_8, rdA_len an ak hak] at hq
  obtain ⟨n3, hn3⟩ : ∃ n, n = lm.length := ⟨_, rfl⟩
  obtain ⟨n4, hn4⟩ : ∃ n, n = ns.length := ⟨_, rfl⟩
  have hx3 : n3 ≤ 9223372036854775807 := by have h2 := hl.le; have h3 := hl.mx; simp only [maxLen] at h3; omega
  have hx4 : n4 ≤ 9223372036854775807 := by have h2 := hn.le; have h3 := hn.mx; simp only [maxLen] at h3; omega
  have hx5 : kn ≤ 9223372036854775807 := hkn
  rw [← hn3, ← hn4]
  clear hl hn
  by_cases g0 : 0 < n3
  · have g0' : (0 : Int) < n3 := by omega
    have HQ : Hid (q = false) := by
      cases hqq : q with
      | false => rfl
      | true => exact absurd (hq.1 hqq).1 (by intro e; rw [e] at hn3; simp at hn3; omega)
    clear hq hn3 hn4
    go_enter Try.func53, Try.ntmps53
    go_wp2_with fail
    go_ret
    exact ⟨by rw [HQ.out]; rfl, below_alloc1 _ _⟩
  have e3 : n3 = 0 := by omega
  have hlm : lm = [] := List.length_eq_zero_iff.1 (by omega)
  subst e3
  cases mn with
  | true =>
    have HQ : Hid (q = false) := by
      cases hqq : q with
      | false => rfl
      | true => exact absurd (hq.1 hqq).2.1 (by simp)
    clear hq hn3 hn4
    go_enter Try.func53, Try.ntmps53
    go_wp2_with fail
    go_ret
    exact ⟨by rw [HQ.out]; rfl, below_alloc1 _ _⟩
  | false =>
  by_cases g4 : 0 < n4
  · have g4' : (0 : Int) < n4 := by omega
    have HQ : Hid (q = false) := by
      cases hqq : q with
      | false => rfl
      | true => exact absurd (hq.1 hqq).2.2.1 (by intro e; rw [e] at hn4; simp at hn4; omega)
    clear hq hn3 hn4
    go_enter Try.func53, Try.ntmps53
    go_wp2_with fail
    go_ret
    exact ⟨by rw [HQ.out]; rfl, below_alloc1 _ _⟩
  have e4 : n4 = 0 := by omega
  have hns : ns = [] := List.length_eq_zero_iff.1 (by omega)
  subst e4
  have H12 : Hid ((kn = 1 ∨ kn = 2) ∧ ¬ (kn = 1 ∧ an = 0) ∧ (∀ c ∈ (rdA ak).cons, ¬ c = ⟨#[]⟩) ∧ (rdA ak).anm ∧ (rdA ak).cons.Nodup ↔ q = true) := by
    unfold Hid
    rw [hq]
    exact ⟨fun h => ⟨hlm, rfl, hns, h⟩, fun h => h.2.2.2⟩
  clear hq hn3 hn4 hlm hns g0 g4
  by_cases g5 : kn < 1
  · have HQ : Hid (q = false) := by
      cases hqq : q with
      | false => rfl
      | true => exact absurd (H12.out.2 hqq).1 (by omega)
    have e5 : kn = 0 := by omega
    clear g5
    subst e5
    go_enter Try.func53, Try.ntmps53
    go_wp2_with fail
    go_ret
    exact ⟨by rw [HQ.out]; rfl, below_alloc1 _ _⟩
  by_cases g6 : 2 < kn
  · have HQ : Hid (q = false) := by
      cases hqq : q with
      | false => rfl
      | true => exact absurd (H12.out.2 hqq).1 (by omega)
    have g5' : ¬ (kn : Int) < 1 := by omega
    have g6' : (2 : Int) < kn := by omega
    have g7' : ¬ kn = 0 := by omega
    go_enter Try.func53, Try.ntmps53
    go_wp2_with fail
    go_ret
    exact ⟨by rw [HQ.out]; rfl, below_alloc1 _ _⟩
  by_cases g7 : kn = 1 ∧ an = 0
  · have HQ : Hid (q = false) := by
      cases hqq : q with
      | false => rfl
      | true => exact absurd g7 (H12.out.2 hqq).2.1
    obtain ⟨rfl, rfl⟩ := g7
    go_enter Try.func53, Try.ntmps53
    go_wp2_with fail
    go_ret
    exact ⟨by rw [HQ.out]; rfl, below_alloc1 _ _⟩
  have HQ3 : Hid ((∀ c ∈ (rdA ak).cons, ¬ c = ⟨#[]⟩) ∧ (rdA ak).anm ∧ (rdA ak).cons.Nodup ↔ q = true) := by
    unfold Hid
    rw [← H12.out]
    exact ⟨fun h => ⟨by omega, g7, h⟩, fun h => h.2.2⟩
  clear H12
  exact ms_8b nm la na ka aa lc nc kn kc an ac ak W nb hnb han hak hsa q HQ3.out (by
    by_cases h : kn = 1
    · exact .inl ⟨h, by rw [beq_eq_false_iff_ne]; omega⟩
    · exact .inr (by omega))

end Go.Proofs.Ytcnokpaicnjkfaa
