import Derived.Test.YtcflciblcdabpaaJB
import Derived.Deep.RegionHeld3
namespace Go.Proofs.Ytcflciblcdabpaa
open Go.RowKit Go.Joins

/-- What the measuring may not turn. -/
def SM (W : World) (cb M : Nat) : Nat → Prop := fun d => d < W.heap.size ∧ d ≠ cb ∧ d ≠ M

/-- What the measuring keeps in memory. -/
structure MW (W wr : World) (cb M M2 : Nat) (O L : Nat → Nat) (kv : List (Option Nat × Value)) (room : Int) (g cap m : Nat) (xs : List Value) : Prop where
  kp : Kept (SM W cb M) W wr
  bx : Bx wr cb [.map (some M), .map (some M2), .int .i64 room]
  mp : MK O L wr M kv
  ow : wr.ownsRow W.heap.size 142 4 (.slice (some ⟨g, 0, none⟩) m cap) m xs
  cl : cb < W.heap.size ∧ M < W.heap.size ∧ cb ≠ M

/-- What is known when all is measured. -/
structure MF (W wr : World) (cb M M2 : Nat) (O L : Nat → Nat) (x0 : Option Nat) (T0 : Nat) (kv : List (Option Nat × Value)) (room : Int) : Prop where
  kp : Kept (SM W cb M) W wr
  bx : Bx wr cb [.map (some M), .map (some M2), .int .i64 room]
  mp : MK O L wr M kv
  gt : getK x0 kv = some (.int .i64 T0)
  le : T0 ≤ 1048576
  r1 : 1048576 ≤ room
  r2 : room ≤ 1048576 + 16 * T0
  kl : ∀ p ∈ kv, ∀ b, p.1 = some b → SM W cb M b ∧ LiveB W b

def stk (O L : Nat → Nat) (l : List Frm) : List Value := l.reverse.flatMap (Frm.cells O L)

theorem stk_cons (O L : Nat → Nat) (f : Frm) (l : List Frm) : stk O L (f :: l) = stk O L l ++ f.cells O L := by simp [stk]

theorem stk_len (O L : Nat → Nat) : ∀ l : List Frm, (stk O L l).length = l.length * 4
  | [] => rfl
  | f :: l => by
    rw [stk_cons, List.length_append, stk_len O L l, Frm.cells_len, List.length_cons]
    omega

/-- Where the loop stands. -/
def LI (W : World) (cb M M2 : Nat) (O L : Nat → Nat) (x0 : Option Nat) (T0 : Nat) (s4 : Value) (wr : World) (k : Nat) : Prop :=
  (∃ g cap kv room, s4 = .slice (some ⟨g, 0, none⟩) 0 cap ∧ MF W wr cb M M2 O L x0 T0 kv room ∧ k = 0) ∨
  ∃ dn top l kv room g cap q, s4 = .slice (some ⟨g, 0, none⟩) (q + 1) cap ∧ l.length = q ∧ MI W (SM W cb M) O L x0 T0 dn top l kv room ∧ MW W wr cb M M2 O L kv room g cap (q + 1) (stk O L (top :: l)) ∧ k = lft dn top l

theorem MW.live {W wr : World} {cb M M2 : Nat} {O L : Nat → Nat} {kv kv' : List (Option Nat × Value)} {room : Int} {g cap m : Nat} {xs : List Value} (h : MW W wr cb M M2 O L kv room g cap m xs) (hl : ∀ p ∈ kv', ∀ b, p.1 = some b → SM W cb M b ∧ LiveB W b) : ∀ p ∈ kv', LiveK wr p.1 := fun p hp => by
  cases e : p.1 with
  | none => trivial
  | some b =>
    obtain ⟨h1, h2⟩ := hl p hp b e
    exact h2.kept h.kp h1.1 h1

theorem lft_pos (dn : Bool) (top : Frm) (l : List Frm) : 0 < lft dn top l := by
  unfold lft
  cases dn <;> simp <;> omega

/-- A list is closed: the world behind it. -/
theorem LI.close {W wr V : World} {cb M M2 : Nat} {O L : Nat → Nat} {x0 : Option Nat} {T0 : Nat} {dn : Bool} {top : Frm} {l : List Frm} {kv : List (Option Nat × Value)} {room : Int} {g cap q : Nat} (h : MI W (SM W cb M) O L x0 T0 dn top l kv room) (hw : MW W wr cb M M2 O L kv room g cap (q + 1) (stk O L (top :: l))) (hq : l.length = q) (hn : top.n = 0) (hm : MK O L V M (setK top.x (.int .i64 top.s) kv)) (hk : Kept (fun d => d ≠ M) wr V) :
    ∃ k, LI W cb M M2 O L x0 T0 (.slice (some ⟨g, 0, none⟩) q cap) V k ∧ k < lft dn top l := by
  obtain ⟨c1, c2, c3⟩ := hw.cl
  have kp : Kept (SM W cb M) W V := hw.kp.trans (hk.mono (fun d _ h => h.2.2))
  have bx := hw.bx.kept hk c3
  have og := ownsRow_le hw.ow
  have ow : V.ownsRow W.heap.size 142 4 (.slice (some ⟨g, 0, none⟩) (q + 1) cap) (q + 1) (stk O L (top :: l)) := ownsRow_kept hw.ow hk (fun d e => by
    have e' : g = d := Option.some.inj e
    omega)
  rw [stk_cons] at ow
  have ow' := ownsRow_cut ow (by rw [stk_len, hq])
  cases l with
  | nil =>
    have hq0 : q = 0 := hq.symm
    subst hq0
    obtain ⟨f1, f2, f3, f4, f5⟩ := h.fin hn
    exact ⟨0, .inl ⟨g, cap, _, room, rfl, ⟨kp, bx, hm, f1, f2, f3, f4, f5⟩, rfl⟩, lft_pos _ _ _⟩
  | cons f l =>
    obtain ⟨f1, f2⟩ := h.cls hn
    obtain ⟨p, rfl⟩ : ∃ p, q = p + 1 := ⟨l.length, by rw [← hq]; rfl⟩
    exact ⟨_, .inr ⟨true, f, l, _, room, g, cap, p, rfl, by simpa using hq, f1, ⟨kp, bx, hm, ow', hw.cl⟩, rfl⟩, f2⟩

theorem MW.keep {W wr wx : World} {cb M M2 : Nat} {O L : Nat → Nat} {kv : List (Option Nat × Value)} {room : Int} {g cap m : Nat} {xs : List Value} (h : MW W wr cb M M2 O L kv room g cap m xs) (k : Kept (fun _ => True) wr wx) : MW W wx cb M M2 O L kv room g cap m xs :=
  ⟨h.kp.trans (k.mono (fun _ _ _ => trivial)), h.bx.kept k trivial, h.mp.kept k trivial, ownsRow_kept h.ow k (fun _ _ => trivial), h.cl⟩

theorem MW.set {W wr : World} {cb M M2 : Nat} {O L : Nat → Nat} {kv : List (Option Nat × Value)} {room : Int} {g cap m : Nat} {xs ys : List Value} {x : Value} (h : MW W wr cb M M2 O L kv room g cap m (xs ++ x :: ys)) (y : Value) : MW W (wr.setCell ⟨g, xs.length, none⟩ y) cb M M2 O L kv room g cap m (xs ++ y :: ys) := by
  have hg := ownsRow_le h.ow
  obtain ⟨c1, c2, c3⟩ := h.cl
  have k : Kept (fun d => d ≠ g) wr (wr.setCell ⟨g, xs.length, none⟩ y) := Kept.setCell _ _ _ _ (by simp)
  exact ⟨h.kp.trans (k.mono (fun d _ hd => by have := hd.1; omega)), h.bx.kept k (by omega), h.mp.kept k (by omega), ownsRow_set h.ow y, h.cl⟩

/-- The next one of a list: the world behind it. -/
theorem LI.next {W wr : World} {cb M M2 : Nat} {O L : Nat → Nat} {x0 : Option Nat} {T0 : Nat} {top : Frm} {l : List Frm} {kv : List (Option Nat × Value)} {room : Int} {g cap q : Nat} (h : MI W (SM W cb M) O L x0 T0 true top l kv room) (hw : MW W wr cb M M2 O L kv room g cap (q + 1) (stk O L (top :: l))) (hq : l.length = q) {a' : Option Addr} {n' c' : Nat} (hn : top.n = n' + 1) (hc : c' = top.c - 1) (ha : 1 < top.n → ∀ b o, top.a = some ⟨b, o, none⟩ → a' = some ⟨b, o + 4, none⟩) :
    ∃ k, LI W cb M M2 O L x0 T0 (.slice (some ⟨g, 0, none⟩) (q + 1) cap) ((wr.setCell ⟨g, q * 4 + 3, none⟩ (.int .i64 (top.s + 1 + top.R.fc))).setCell ⟨g, q * 4 + 2, none⟩ (.slice a' n' c')) k ∧ k < lft true top l := by
  obtain ⟨h1, h2⟩ := h.adv hc ha
  obtain ⟨p, m, hkv, hkc⟩ := kcells_two O L top.x
  have e1 : stk O L (top :: l) = (stk O L l ++ [Value.pointer p, .int .i64 m, .slice top.a top.n top.c]) ++ .int .i64 top.s :: [] := by
    rw [stk_cons, Frm.cells, hkc]
    simp
  have l1 : (stk O L l ++ [Value.pointer p, .int .i64 m, .slice top.a top.n top.c]).length = q * 4 + 3 := by
    rw [List.length_append, stk_len, hq]
    rfl
  have l2 : (stk O L l ++ [Value.pointer p, .int .i64 m]).length = q * 4 + 2 := by
    rw [List.length_append, stk_len, hq]
    rfl
  rw [e1] at hw
  have w1 := hw.set (.int .i64 (top.s + 1 + top.R.fc))
  rw [l1] at w1
  have e2 : (stk O L l ++ [Value.pointer p, .int .i64 m, .slice top.a top.n top.c]) ++ .int .i64 (top.s + 1 + top.R.fc) :: [] = (stk O L l ++ [.pointer p, .int .i64 m]) ++ .slice top.a top.n top.c :: [.int .i64 (top.s + 1 + top.R.fc)] := by simp
  rw [e2] at w1
  have w2 := w1.set (.slice a' n' c')
  rw [l2] at w2
  have e3 : (stk O L l ++ [Value.pointer p, .int .i64 m]) ++ .slice a' n' c' :: [.int .i64 (top.s + 1 + top.R.fc)] = stk O L (⟨top.x, top.T, a', top.n - 1, c', top.R.rst, top.s + 1 + top.R.fc⟩ :: l) := by
    rw [stk_cons, Frm.cells]
    have : top.n - 1 = n' := by omega
    simp [hkc, this]
  rw [e3] at w2
  exact ⟨_, .inr ⟨false, _, l, kv, room, g, cap, q, rfl, hq, h1, w2, rfl⟩, h2⟩

set_option maxHeartbeats 2000000 in
set_option maxRecDepth 100000 in
theorem i_measure (O L : Nat → Nat) (cb M M2 : Nat) (room0 : Int) (a : Option Addr) (n c : Nat) (R : Fo) (W : World)
    (hbx : Bx W cb [.map (some M), .map (some M2), .int .i64 room0]) (hmk : MK O L W M [(none, .int .i64 0)]) (hcl : cb < W.heap.size ∧ M < W.heap.size ∧ cb ≠ M)
    (hf : Fit E R (rep (E 2) n)) (hs : R.Sub W (SM W cb M) a n c) (hat : R.At O L) (ha : 0 < R.len → ∃ b, a = some ⟨b, O b, none⟩ ∧ L b = n) (hl : ∀ d ∈ blk a R.len ++ R.inn, LiveB W d) (hd : (blk a R.len ++ R.inn).Nodup) (hm : R.tc ≤ 1048576) :
    Calls Try.prog 52 #[.pointer (some ⟨cb, 0, none⟩), .slice a n c] W fun e W' => e = .returned (.tuple #[]) ∧ ∃ kv room, MF W W' cb M M2 O L (keyOf a n) R.tc kv room := by
  obtain ⟨V1, hV1⟩ : ∃ V, W.setCell ⟨cb, 2, none⟩ (.int .i64 1048576) = V := ⟨_, rfl⟩
  have hz1 : V1.heap.size = W.heap.size := by rw [← hV1]; simp [World.setCell]
  have k1 : Kept (fun d => d ≠ cb) W V1 := by rw [← hV1]; exact Kept.setCell _ _ _ _ (by simp)
  have bx1 : Bx V1 cb [.map (some M), .map (some M2), .int .i64 1048576] := by rw [← hV1]; exact hbx.put 2 _ (by simp)
  have mk1 := hmk.kept k1 (fun e => hcl.2.2 e.symm)
  obtain ⟨hlen, htc⟩ := ty_len _ _ hf
  have hMI := MI.start hf hs hat ha hl hd hm
  have hop := i_opened O L cb M M2 W.heap.size 1048576 [(none, .int .i64 0)] (.slice none 0 0) 0 [] a n c (keyOf a n) V1 bx1 mk1 (fun p hp => by
      have : p = (none, .int .i64 0) := by simpa using hp
      rw [this]
      trivial) (by
      cases e : keyOf a n with
      | none => trivial
      | some b =>
        obtain ⟨h1, h2⟩ := (hMI.ok _ List.mem_cons_self).xs b e
        exact h2.kept k1 h1.1 h1.2.1) (whr_key hlen ha) (fun h => by
        obtain ⟨b, e, -⟩ := ha (by omega)
        exact ⟨b, O b, e⟩) (by omega) ⟨by decide, by decide⟩ ⟨by simp, .inl ⟨rfl, rfl⟩⟩ (by decide) ⟨hcl.1, hcl.2.1, by omega⟩
  have l2 := hbx.live 2
  have HBC := hbx.cel 2 _ rfl
  have HOP := hide hop
  have HV1 := hide hV1
  have HMI := hide hMI
  have HCL := hide hcl
  have HT := hide hm
  have HK1 := hide k1
  clear hop hV1 hMI hf hs hat ha hl hd hm bx1 mk1 hcl hbx hmk hlen htc k1
  go_enter Try.func52, Try.ntmps52
  go_upto_region 1 with fail
  rw [HV1.out]
  clear HV1
  go_wp2_with fail
  refine HOP.out.mono ?_
  rintro e V2 ⟨g2, cap2, pp, nn, rfl, hk2, ho2, hb2, hm2, k2⟩
  have HLI : Hid (∃ k, LI W cb M M2 O L (keyOf a n) R.tc (.slice (some ⟨g2, 0, none⟩) 1 cap2) V2 k) := by
    have e1 : stk O L [⟨keyOf a n, R.tc, a, n, c, R, 0⟩] = [.pointer pp, .int .i64 nn, .slice a n c, .int .i64 0] := by
      simp [stk, Frm.cells, kcells_eq hk2]
    refine ⟨_, .inr ⟨false, _, [], _, _, g2, cap2, 0, rfl, rfl, HMI.out, ⟨?_, hb2, hm2, ?_, HCL.out⟩, rfl⟩⟩
    · exact (HK1.out.mono (fun d _ h => h.2.1)).trans (k2.mono (fun d _ h => h))
    · rw [e1]
      exact ho2
  clear HOP HMI ho2 hb2 hm2 k2 hk2 HK1
  go_wp2_with fail
  go_loopw [4] (fun s4 wr => ∃ k, LI W cb M M2 O L (keyOf a n) R.tc s4 wr k) (fun s4 wr => least (LI W cb M M2 O L (keyOf a n) R.tc s4 wr))
  case atStart => exact HLI.out
  case round =>
    clear HLI
    have hLI := least_spec hrel
    clear hrel
    rcases hLI with ⟨g, cap, kv, room, rfl, hMF, -⟩ | ⟨dn, top, l, kv, room, g, cap, q, rfl, hq, hMI, hMW, hk⟩
    · have HMF := hide hMF
      clear hMF
      go_wp2_with fail
      exact bodyPost_end (results_none rfl _ _ _) rfl ⟨rfl, kv, room, HMF.out⟩
    · have hlm : q ≤ 1048576 := by
        have h1 := hMI.ch.len hMI.ok top l rfl
        have h2 := HT.out
        omega
      have HK := hide hk
      clear hk
      obtain ⟨pp, nn, hkv, hkc⟩ := kcells_two O L top.x
      have hst : stk O L (top :: l) = stk O L l ++ [.pointer pp, .int .i64 nn, .slice top.a top.n top.c, .int .i64 top.s] := by
        rw [stk_cons, Frm.cells, hkc]
        rfl
      have hsl := stk_len O L l
      rw [hq] at hsl
      have hce : ∀ j v, [Value.pointer pp, .int .i64 nn, .slice top.a top.n top.c, .int .i64 top.s][j]? = some v → wr.cell? ⟨g, q * 4 + j, none⟩ = some v := fun j v hv => by
        refine ownsRow_cell hMW.ow (q * 4 + j) v ?_
        rw [hst, ← hsl, List.getElem?_append_right (by omega)]
        simpa using hv
      have c0 : wr.cell? ⟨g, q * 4, none⟩ = some (.pointer pp) := hce 0 _ rfl
      have c1 := hce 1 _ rfl
      have c2 := hce 2 _ rfl
      have c3 := hce 3 _ rfl
      have f2 := ownsRow_live hMW.ow (q * 4 + 2)
      have f3 := ownsRow_live hMW.ow (q * 4 + 3)
      have b0 := hMW.bx.cel 0 _ rfl
      obtain ⟨o1, o2, o3, o4⟩ := ownsRow_le hMW.ow
      have HMI := hide hMI
      have HMW := hide hMW
      have HQ := hide hq
      clear hMI hMW hq hce hst hsl
      by_cases hn0 : top.n = 0
      · rw [hn0] at c2
        obtain ⟨V5, hpt, hm5, hg5⟩ := (HMW.out.mp.kept (Kept.drew (fun _ => True) wr) trivial).put5 (fun p hp => (HMW.out.live HMI.out.kl p hp).keep (Kept.drew (fun _ => True) wr) (fun _ _ => trivial)) top.x (by
          cases e : top.x with
          | none => trivial
          | some b =>
            obtain ⟨h1, h2⟩ := (HMI.out.ok top List.mem_cons_self).xs b e
            exact h2.kept (HMW.out.kp.dr) h1.1 h1) (.int .i64 top.s)
        rw [hkv] at hpt
        have k5 : Kept (fun d => d ≠ M) wr V5 := (Kept.drew _ _).trans (Kept.grown hg5 (fun b e h => h (Option.some.inj e).symm))
        obtain ⟨k', hL', hlt⟩ := LI.close HMI.out HMW.out HQ.out hn0 hm5 k5
        have HL' := hide hL'
        have HLT := hide hlt
        clear hm5 hg5 k5 hL' hlt
        go_upto_region 5 with fail
        go_region
        go_upto_region 6 with fail
        go_wp2_with fail
        go_roundw
        case rel => exact ⟨k', HL'.out⟩
        case measure =>
          rw [HK.out]
          exact Nat.lt_of_le_of_lt (least_le HL'.out) HLT.out
      · obtain ⟨n', hn'⟩ : ∃ n', top.n = n' + 1 := ⟨top.n - 1, by omega⟩
        have hok := HMI.out.ok top List.mem_cons_self
        have hfit := hok.fit
        rw [hn'] at hfit c2
        obtain ⟨tk, ti, tnm, ta, tm, tcp, ks, r, hR, hf1, hf2⟩ := ty_cons hfit
        obtain ⟨b, o, hta, hSb, hcel, -⟩ := hok.sub.2.2 (by rw [hR]; simp [Fo.len])
        have hbl := hSb.1
        rw [hta] at c2
        rw [hR] at hcel
        have d3 : wr.cell? ⟨b, o + 3, none⟩ = some (.slice ta tm tcp) := (HMW.out.kp.cell (p := ⟨b, o + 3, none⟩) hbl hSb).trans (hcel 3 _ rfl)
        obtain ⟨tlen, ttc⟩ := ty_len _ _ hf1
        have hat := hok.at_
        rw [hR] at hat
        have hwk := whr_key tlen hat.1
        obtain ⟨p', m', hkv', -⟩ := kcells_two O L (keyOf ta tm)
        have hsum := hok.sum
        have hmx := hok.mx
        have htcR : top.R.tc = 1 + ks.tc + r.tc := by rw [hR]; rfl
        have htm : tm ≤ 1048576 := by omega
        have hta' : 0 < tm → ∃ b o, ta = some ⟨b, o, none⟩ := fun h => by
          obtain ⟨b, e, -⟩ := hat.1 (by omega)
          exact ⟨b, O b, e⟩
        have hfk : top.R.fk = keyOf ta tm := by rw [hR]; rfl
        have hfc : top.R.fc = ks.tc := by rw [hR]; rfl
        have HC : Hid (∀ V, Kept (fun _ => True) wr V → Calls Try.prog 71 #[.slice ta tm tcp] V fun e w' => e = .returned (.agg #[.pointer p', .int .i64 m']) ∧ Kept (fun _ => True) wr w') := fun V kV => by
          have h := i_where ta tm tcp V hta' htm
          rw [hwk, hkv'] at h
          exact h.mono (fun e w' h => ⟨h.1, kV.trans (kt h.2)⟩)
        have HSQ : Hid (∀ V, Kept (fun _ => True) wr V → V.cell? ⟨cb, 0, none⟩ = some (.map (some M))) := fun V kV => (HMW.out.bx.kept kV trivial).cel 0 _ rfl
        have hkl : LiveK wr (keyOf ta tm) := by
          cases e : keyOf ta tm with
          | none => trivial
          | some d =>
            have hd : d ∈ top.R.inn := by
              by_cases h0 : tm = 0
              · simp [keyOf, h0] at e
              · obtain ⟨b', e1, e2, -⟩ := key_some tlen hat.1 (Nat.pos_of_ne_zero h0)
                rw [e] at e1
                have : d = b' := Option.some.inj e1
                subst this
                rw [hR]
                simp [Fo.inn, e2]
            have hSd : SM W cb M d := by
              obtain ⟨-, -, -, -, -, hsub⟩ := hok.sub.2.2 (by rw [hR]; simp [Fo.len])
              exact hsub.inn_of d hd
            exact (hok.lv d hd).kept HMW.out.kp hSd.1 hSd
        have HLV : Hid (∀ p ∈ kv, LiveK wr p.1) := HMW.out.live HMI.out.kl
        have HKL := hide hkl
        have HKD : Hid (Kept (fun _ => True) wr wr.drew) := Kept.drew _ _
        have k0' := HSQ.out wr.drew HKD.out
        have hcase : (MI W (SM W cb M) O L (keyOf a n) R.tc true top l kv room ∧ lft true top l ≤ lft dn top l) ∨ (dn = false ∧ 0 < tm) := by
          cases dn with
          | true => exact .inl ⟨HMI.out, Nat.le_refl _⟩
          | false =>
            by_cases h0 : tm = 0
            · refine .inl ⟨HMI.out.emp (by omega) (by rw [hfk]; simp [keyOf, h0]), ?_⟩
              have er : top.R.rst.tc = r.tc := by rw [hR]; rfl
              simp [lft, er, htcR]
              omega
            · exact .inr ⟨rfl, by omega⟩
        rcases hcase with ⟨hMT, hle⟩ | ⟨rfl, htm0⟩
        · have HLK : Hid (∀ V, Kept (fun _ => True) wr V → (Instr.lookup 115 (.map (some M)) (.agg #[.pointer p', .int .i64 m']) true).run Try.prog V = .ok (.tuple #[.int .i64 ks.tc, .bool true]) V) := fun V kV => by
            have h := (hMT.kn rfl).2
            rw [hfk, hfc] at h
            have := (HMW.out.mp.kept kV trivial).hit5 (fun p hp => (HLV.out p hp).keep kV (fun _ _ => trivial)) (keyOf ta tm) (HKL.out.keep kV (fun _ _ => trivial)) h true
            rw [hkv'] at this
            exact this
          have hsb : top.s + 1 + ks.tc ≤ 1048576 := by omega
          have HMT := hide hMT
          have HCP : Hid (top.n ≤ top.c) := hok.sub.1
          clear hMT
          clear hok hfit hf1 hf2 hcel hat hwk hkv' hsum htcR hta' hkl ttc
          go_upto_region 8 with fail
          go_cut [7, 8] (fun s7 s8 wx => s7 = .int .i64 ks.tc ∧ s8 = .bool true ∧ Kept (fun _ => True) wr wx)
          case first =>
            go_region_held3 (fun V => V.cell? ⟨cb, 0, none⟩ = some (.map (some M)))
              (first | with_reducible exact k9' | with_reducible exact k0')
              (first
                | (go_at_call 71; refine (HC.out _ HKD.out).mono ?_; rintro e w9x ⟨rfl, b9x⟩; have k9' := HSQ.out w9x b9x; have hlk9 := HLK.out w9x b9x))
            all_goals
              go_wp2_with fail
              go_meet
              case rel => exact ⟨rfl, rfl, b9x⟩
          case rest =>
            obtain ⟨rfl, rfl, hcb⟩ := hcut
            rename World => wx
            have x2 : wx.cell? ⟨g, q * 4 + 2, none⟩ = _ := (hcb.cell (p := ⟨g, q * 4 + 2, none⟩) o2 trivial).trans c2
            have x3 : wx.cell? ⟨g, q * 4 + 3, none⟩ = _ := (hcb.cell (p := ⟨g, q * 4 + 3, none⟩) o2 trivial).trans c3
            have y2 : wx.frozen? ⟨g, q * 4 + 2, none⟩ = false := (hcb.frozen (p := ⟨g, q * 4 + 2, none⟩) o2 trivial).trans f2
            have y3 : wx.frozen? ⟨g, q * 4 + 3, none⟩ = false := (hcb.frozen (p := ⟨g, q * 4 + 3, none⟩) o2 trivial).trans f3
            obtain ⟨k', hL', hlt⟩ := LI.next HMT.out (HMW.out.keep hcb) HQ.out hn' rfl (a' := if top.c = 1 then some ⟨b, o, none⟩ else some ⟨b, o + 4, none⟩) (fun h1 b1 o1 e => by
              have hc := HCP.out
              rw [hta] at e
              cases e
              rw [if_neg (by omega)])
            have hmin : min ((top.s : Int) + 1 + ks.tc) 2305843009213693951 = (top.s : Int) + 1 + top.R.fc := by rw [hfc]; omega
            rw [← hmin] at hL'
            have HL' := hide hL'
            have HLT := hide (Nat.lt_of_lt_of_le hlt hle)
            clear HC HSQ HLK k0' c0 c1 c2 c3 f2 f3 b0 d3 HKD HLV HKL hL' hlt hmin hfc hfk hR
            go_upto_region 11 with fail
            go_wp2_with fail
            go_roundw
            case rel => exact ⟨k', HL'.out⟩
            case measure =>
              rw [HK.out]
              exact Nat.lt_of_le_of_lt (least_le HL'.out) HLT.out
        · have hlk0 : getK (keyOf ta tm) kv = none := by
            obtain ⟨b', e1, e2, -⟩ := key_some tlen hat.1 htm0
            rw [e1]
            refine HMI.out.un b' ?_
            simp only [pnd, List.mem_append]
            left
            rw [hR]
            simp [Fo.inn, e2]
          have HLK : Hid (∀ V, Kept (fun _ => True) wr V → (Instr.lookup 115 (.map (some M)) (.agg #[.pointer p', .int .i64 m']) true).run Try.prog V = .ok (.tuple #[.int .i64 0, .bool false]) V) := fun V kV => by
            have := (HMW.out.mp.kept kV trivial).miss5 (fun p hp => (HLV.out p hp).keep kV (fun _ _ => trivial)) (keyOf ta tm) (HKL.out.keep kV (fun _ _ => trivial)) hlk0 true
            rw [hkv'] at this
            exact this
          have HOP : Hid (∀ V, Kept (fun _ => True) wr V → Calls Try.prog 70 #[.pointer (some ⟨cb, 0, none⟩), .slice (some ⟨g, 0, none⟩) (q + 1) cap, .slice ta tm tcp] V fun e W' => ∃ g' cap', e = .returned (.slice (some ⟨g', 0, none⟩) (q + 1 + 1) cap') ∧ ∃ k, LI W cb M M2 O L (keyOf a n) R.tc (.slice (some ⟨g', 0, none⟩) (q + 1 + 1) cap') W' k ∧ k < lft false top l) := fun V kV => by
            have hw := HMW.out.keep kV
            obtain ⟨h1, h2⟩ := HMI.out.opn (by omega) hR hf1 htm0
            have hr2 := HMI.out.r2
            have hT := HT.out
            refine (i_opened O L cb M M2 W.heap.size room kv (.slice (some ⟨g, 0, none⟩) (q + 1) cap) (q + 1) (stk O L (top :: l)) ta tm tcp (keyOf ta tm) V hw.bx hw.mp (fun p hp => (HLV.out p hp).keep kV (fun _ _ => trivial)) (HKL.out.keep kV (fun _ _ => trivial)) hwk hta' htm ⟨by have := HMI.out.r1; omega, by omega⟩ hw.ow (by omega) ⟨hw.cl.1, hw.cl.2.1, hw.kp.size⟩).mono ?_
            rintro e W' ⟨g', cap', pp', nn', rfl, e1, e2, e3, e4, e5⟩
            refine ⟨g', cap', rfl, _, .inr ⟨false, _, top :: l, _, _, g', cap', q + 1, rfl, by rw [List.length_cons, HQ.out], h1, ⟨hw.kp.trans (e5.mono (fun d _ h => h)), e3, e4, ?_, hw.cl⟩, rfl⟩, h2⟩
            rw [stk_cons, Frm.cells, kcells_eq e1]
            exact e2
          clear hok hfit hf1 hf2 hcel hat hwk hkv' hsum htcR hta' hkl ttc hlk0 HLV HKL
          go_upto_region 8 with fail
          go_cut [7, 8] (fun s7 s8 wx => s7 = .int .i64 0 ∧ s8 = .bool false ∧ Kept (fun _ => True) wr wx)
          case first =>
            go_region_held3 (fun V => V.cell? ⟨cb, 0, none⟩ = some (.map (some M)))
              (first | with_reducible exact k9' | with_reducible exact k0')
              (first
                | (go_at_call 71; refine (HC.out _ HKD.out).mono ?_; rintro e w9x ⟨rfl, b9x⟩; have k9' := HSQ.out w9x b9x; have hlk9 := HLK.out w9x b9x))
            all_goals
              go_wp2_with fail
              go_meet
              case rel => exact ⟨rfl, rfl, b9x⟩
          case rest =>
            obtain ⟨rfl, rfl, hcb⟩ := hcut
            rename World => wx
            have HOP' := hide (HOP.out wx hcb)
            clear HC HSQ HLK k0' c0 c1 c2 c3 f2 f3 b0 d3 HKD hcb HOP
            go_wp2_with fail
            refine HOP'.out.mono ?_
            rintro e w3 ⟨g', cap', rfl, k', hL', hlt⟩
            have HL' := hide hL'
            have HLT := hide hlt
            clear hL' hlt HOP'
            go_wp2_with fail
            go_roundw
            case rel => exact ⟨k', HL'.out⟩
            case measure =>
              rw [HK.out]
              exact Nat.lt_of_le_of_lt (least_le HL'.out) HLT.out

end Go.Proofs.Ytcflciblcdabpaa
