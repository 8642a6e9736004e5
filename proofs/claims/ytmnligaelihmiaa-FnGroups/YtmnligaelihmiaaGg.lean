import Derived.Test.YtmnligaelihmiaaGf
import Derived.Deep.LoopGhost
namespace Go.Proofs.Ytmnligaelihmiaa
open Go.RowKit Go.Joins
/-- Things are taken off the open ones, and get their group. -/
def pops (s : Gr.St) (x : Nat) (D R r : List Nat) : Gr.St := { s with num := fun y => if y ∈ D then Gr.B else s.num y, com := fun y => if y ∈ D then x else s.com y, path := r, opn := R }
theorem MW.popO {n : Nat} {s : Gr.St} {lo T V b N k cap : Nat} {W : World} {pv : Value} (h : MW n s lo T V W pv (.slice (some ⟨b, 0, none⟩) N cap)) {x : Nat} {p : List Nat} (hp : s.opn = x :: p) (hk : k = p.length) :
    MW n { s with opn := p } lo T V (W.setCell ⟨T, 2, none⟩ (.slice (some ⟨b, 0, none⟩) k cap)) pv (.slice (some ⟨b, 0, none⟩) k cap) := by
  have hTp : ∀ c, pv.ownBlock = some c → c ≠ T ∧ c ≠ V := fun c hc => by
    have h1 := h.rp.lt c hc; have h2 := h.tl; have h3 := h.vl; omega
  have hTo : ∀ c, (Value.slice (some ⟨b, 0, none⟩) N cap).ownBlock = some c → c ≠ T ∧ c ≠ V := fun c hc => by
    have h1 := h.ro.lt c hc; have h2 := h.tl; have h3 := h.vl; omega
  have kS : Kept (fun c => c ≠ T) W (W.setCell ⟨T, 2, none⟩ (.slice (some ⟨b, 0, none⟩) k cap)) := Kept.setCell _ _ _ _ (by simp)
  have hVl : V < W.heap.size := Nat.lt_of_lt_of_le h.vl h.ll
  have hVT : V ≠ T := fun e => h.tv e.symm
  have hrev : s.opn.reverse = p.reverse ++ [x] := by rw [hp, List.reverse_cons]
  refine ⟨h.tv, h.tl, h.vl, Nat.le_trans h.ll kS.size, ?_, h.rp.kept kS (fun c hc => (hTp c hc).1), ?_, fun c hc => h.ap c hc, fun y hy => ?_, fun j => (kS.frozen (p := ⟨V, j, none⟩) hVl hVT).trans (h.vf j)⟩
  · exact h.bx.put 2 (.slice (some ⟨b, 0, none⟩) k cap) (by simp)
  · have h1 := h.ro.cut (n := k) (by rw [hrev, hk]; simp)
    have h2 : s.opn.reverse.take k = p.reverse := by rw [hrev, hk, ← List.length_reverse, List.take_left]
    rw [h2] at h1
    exact h1.kept kS (fun c hc => (hTo c hc).1)
  · obtain ⟨a, b, c, d⟩ := h.vs y hy
    exact ⟨(kS.cell (p := ⟨V, y * 4, none⟩) hVl hVT).trans a, (kS.cell (p := ⟨V, y * 4 + 1, none⟩) hVl hVT).trans b, (kS.cell (p := ⟨V, y * 4 + 2, none⟩) hVl hVT).trans c, (kS.cell (p := ⟨V, y * 4 + 3, none⟩) hVl hVT).trans d⟩
theorem fld_num (s : Gr.St) (y v : Nat) : ∀ j, j < 4 → ∀ x, fld { s with num := Gr.upd s.num y v } j x = if x = y ∧ j = 0 then v else fld s j x := by
  intro j hj x
  match j, hj with
  | 0, _ => by_cases e : x = y <;> simp [fld, Gr.upd, e]
  | 1, _ => simp [fld]
  | 2, _ => simp [fld]
  | 3, _ => simp [fld]
theorem fld_nxt (s : Gr.St) (y v : Nat) : ∀ j, j < 4 → ∀ x, fld { s with nxt := Gr.upd s.nxt y v } j x = if x = y ∧ j = 2 then v else fld s j x := by
  intro j hj x
  match j, hj with
  | 0, _ => simp [fld]
  | 1, _ => simp [fld]
  | 2, _ => by_cases e : x = y <;> simp [fld, Gr.upd, e]
  | 3, _ => simp [fld]
theorem fld_com (s : Gr.St) (y v : Nat) : ∀ j, j < 4 → ∀ x, fld { s with com := Gr.upd s.com y v } j x = if x = y ∧ j = 3 then v else fld s j x := by
  intro j hj x
  match j, hj with
  | 0, _ => simp [fld]
  | 1, _ => simp [fld]
  | 2, _ => simp [fld]
  | 3, _ => by_cases e : x = y <;> simp [fld, Gr.upd, e]
/-- What the loop that takes off knows. -/
structure LC (s : Gr.St) (x : Nat) (G O r : List Nat) (n lo T V : Nat) (W : World) (pv : Value) (D R : List Nat) (lv : Int) (wr : World) : Prop where
  st : (∃ R', G = D ++ R' ∧ R = R' ++ x :: O ∧ lv ≠ (x : Int)) ∨ (D = G ++ [x] ∧ R = O ∧ lv = (x : Int))
  mw : ∃ ov, MW n (pops s x D R r) lo T V wr pv ov
  kp : Kept (fun c => c < lo ∧ c ≠ T ∧ c ≠ V) W wr
theorem LC.step {s : Gr.St} {x : Nat} {G O r : List Nat} {n lo T V : Nat} {W : World} {pv : Value} {D R2 : List Nat} {lv : Int} {wr : World} {z ob k cap : Nat} (h : LC s x G O r n lo T V W pv D (z :: R2) lv wr) (hl : lv ≠ (x : Int)) (hGx : ∀ z ∈ G, z ≠ x) (hz : z < n) (hk : k = R2.length)
    (hm : MW n (pops s x D (z :: R2) r) lo T V wr pv (.slice (some ⟨ob, 0, none⟩) (k + 1) cap)) :
    LC s x G O r n lo T V W pv (D ++ [z]) R2 (z : Int) ((((wr.setCell ⟨T, 2, none⟩ (.slice (some ⟨ob, 0, none⟩) k cap)).setCell ⟨V, z * 4 + 3, none⟩ (iv x)).setCell ⟨V, z * 4, none⟩ (iv Gr.B))) := by
  have hR : ∃ R', G = D ++ R' ∧ z :: R2 = R' ++ x :: O := by
    rcases h.st with ⟨R', a, b, -⟩ | ⟨-, -, a⟩
    · exact ⟨R', a, b⟩
    · exact absurd a hl
  obtain ⟨R', hG, hR'⟩ := hR
  have m1 := hm.popO (x := z) (p := R2) rfl hk
  obtain ⟨s1, hs1⟩ : ∃ s1 : Gr.St, s1 = { (pops s x D (z :: R2) r) with opn := R2 } := ⟨_, rfl⟩
  rw [← hs1] at m1
  have m2 := m1.set (s' := { s1 with com := Gr.upd s1.com z x }) (v := x) hz (by decide : 3 < 4) rfl rfl rfl (fun j hj y _ => fld_com _ _ _ j hj y)
  obtain ⟨s2, hs2⟩ : ∃ s2 : Gr.St, s2 = { s1 with com := Gr.upd s1.com z x } := ⟨_, rfl⟩
  rw [← hs2] at m2
  have m3 := m2.set (s' := { s2 with num := Gr.upd s2.num z Gr.B }) (v := Gr.B) hz (by decide : 0 < 4) rfl rfl rfl (fun j hj y _ => fld_num _ _ _ j hj y)
  subst hs2; subst hs1
  refine ⟨?_, ⟨_, m3.cong rfl rfl rfl (fun y _ => ?_)⟩, ?_⟩
  · cases R' with
    | nil =>
      right
      simp only [List.nil_append, List.cons.injEq] at hR'
      obtain ⟨rfl, rfl⟩ := hR'
      exact ⟨by rw [hG, List.append_nil], rfl, rfl⟩
    | cons u R'' =>
      left
      simp only [List.cons_append, List.cons.injEq] at hR'
      obtain ⟨rfl, rfl⟩ := hR'
      refine ⟨R'', by rw [hG]; simp, rfl, fun e => ?_⟩
      have := hGx z (by rw [hG]; simp)
      omega
  · refine ⟨?_, rfl, rfl, ?_⟩
    · show (if y ∈ D ++ [z] then Gr.B else s.num y) = Gr.upd (fun y => if y ∈ D then Gr.B else s.num y) z Gr.B y
      by_cases e : y = z
      · subst e; simp [Gr.upd_same]
      · rw [Gr.upd_other e]; simp [e]
    · show (if y ∈ D ++ [z] then x else s.com y) = Gr.upd (fun y => if y ∈ D then x else s.com y) z x y
      by_cases e : y = z
      · subst e; simp [Gr.upd_same]
      · rw [Gr.upd_other e]; simp [e]
  · exact ((h.kp.trans (Kept.setCell _ _ _ _ (by simp))).trans (Kept.setCell _ _ _ _ (by simp))).trans (Kept.setCell _ _ _ _ (by simp))
theorem LC.drew {s : Gr.St} {x : Nat} {G O r : List Nat} {n lo T V : Nat} {W : World} {pv : Value} {D R : List Nat} {lv : Int} {wr : World} (h : LC s x G O r n lo T V W pv D R lv wr) : LC s x G O r n lo T V W pv D R lv wr.drew :=
  ⟨h.st, by obtain ⟨ov, m⟩ := h.mw; exact ⟨ov, m.drew⟩, h.kp.dr⟩
theorem LC.fin {s : Gr.St} {x : Nat} {G O r : List Nat} {n lo T V : Nat} {W : World} {pv : Value} {D R : List Nat} {wr : World} (h : LC s x G O r n lo T V W pv D R (x : Int) wr) : (∃ pv' ov', MW n (Gr.close s x G O r) lo T V wr pv' ov') ∧ Kept (fun c => c < lo ∧ c ≠ T ∧ c ≠ V) W wr := by
  rcases h.st with ⟨R', -, -, a⟩ | ⟨rfl, rfl, -⟩
  · exact absurd rfl a
  · obtain ⟨ov, m⟩ := h.mw
    exact ⟨⟨pv, ov, m.cong rfl rfl rfl (fun y _ => ⟨by show (if y ∈ G ∨ y = x then _ else _) = (if y ∈ G ++ [x] then _ else _); simp, rfl, rfl, by show (if y ∈ G ∨ y = x then _ else _) = (if y ∈ G ++ [x] then _ else _); simp⟩)⟩, h.kp⟩
set_option maxHeartbeats 4000000 in
set_option maxRecDepth 100000 in
theorem i_close {n : Nat} {s : Gr.St} {lo T V : Nat} {W : World} {pv ov : Value} (h : MW n s lo T V W pv ov) {x : Nat} {r G O : List Nat} (hp : s.path = x :: r) (ho : s.opn = G ++ x :: O) (hx : x < n) (hGx : ∀ z ∈ G, z ≠ x) (hon : ∀ z ∈ s.opn, z < n) (hol : s.opn.length ≤ n) (hn : n ≤ 1048576) (hl : s.num x ≤ s.least x) (hpl : s.path.length ≤ n) :
    Calls Try.prog 34 #[.pointer (some ⟨T, 0, none⟩)] W fun e W' => e = .returned (.tuple #[]) ∧ (∃ pv' ov', MW n (Gr.close s x G O r) lo T V W' pv' ov') ∧ Kept (fun c => c < lo ∧ c ≠ T ∧ c ≠ V) W W' := by
  have HE := hide (end_any h hp (by rw [hp] at hpl; simp at hpl ⊢; omega))
  obtain ⟨pa, cap, rfl, hc1, hc2, hs⟩ := h.rp.shape
  obtain ⟨k, hk⟩ : ∃ k, k = r.length := ⟨_, rfl⟩
  obtain ⟨N, hN⟩ : ∃ N, N = s.path.reverse.length := ⟨_, rfl⟩
  have hNk : N = k + 1 := by rw [hN, hp, hk]; simp
  rw [← hN] at h hc1
  rcases hs with e | ⟨b, rfl, hb, hbl⟩
  · rw [hp] at e; simp at e
  have c0 := h.bx.cel 0 _ rfl
  have c1 := h.bx.cel 1 _ rfl
  have f1 := h.bx.live 1
  have hki : (N : Int) - 1 = (k : Int) := by omega
  have hkN : (k : Int) ≤ (N : Int) := by omega
  have hkc : k ≤ cap := by omega
  have hxn : (x : Int) < n := by omega
  have hNb : N ≤ 1048576 := by rw [hN, List.length_reverse]; omega
  have H := hide h
  have HN := hide hN
  have HK := hide hNk
  have HK0 := hide hk
  have HNB := hide hNb
  clear hN hNk hk h hpl
  go_enter Try.func34, Try.ntmps34
  go_upto_region 1 with (go_at_call 32; refine HE.out.mono ?_; rintro e W1 ⟨rfl, rfl⟩)
  go_region
  have M1 := H.out.popP hp (k := k) HK0.out
  have kS : Kept (fun c => c ≠ T) W (W.setCell ⟨T, 1, none⟩ (.slice (some ⟨b, 0, none⟩) k cap)).drew.drew := ((Kept.setCell _ _ _ _ (by simp)).trans (Kept.drew _ _)).trans (Kept.drew _ _)
  generalize (W.setCell ⟨T, 1, none⟩ (.slice (some ⟨b, 0, none⟩) k cap)).drew.drew = V1 at M1 kS ⊢
  have d0 := M1.bx.cel 0 _ rfl
  obtain ⟨v0, v1, v2, v3⟩ := M1.vs x hx
  have hge : ¬ ((s.least x : Nat) : Int) < ((s.num x : Nat) : Int) := by omega
  have HM1 := hide M1
  have HKS := hide kS
  clear M1 kS c0 c1 f1 HE hki hkN hkc hNb
  unfold iv at v0 v1 v2 v3
  dsimp only at v0 v1 v2 v3
  go_upto_region 6 with fail
  obtain ⟨V2, hV2⟩ : ∃ V2, V1.alloc (.cells #[.int .i64 (s.num x : Nat), .int .i64 (s.least x : Nat), .int .i64 (s.nxt x : Nat), .int .i64 (s.com x : Nat)] 57) = V2 := ⟨_, rfl⟩
  rw [hV2]
  have kA : Kept (fun _ => True) V1 V2 := by rw [← hV2]; exact Kept.alloc _ _ _
  have HL : Hid (LC s x G O r n lo T V W (.slice (some ⟨b, 0, none⟩) k cap) [] s.opn (-1) V2) := by
    refine ⟨.inl ⟨G, rfl, ho, by omega⟩, ⟨_, (HM1.out.kept kA trivial trivial (fun _ _ => trivial) (fun _ _ => trivial)).cong rfl rfl rfl (fun y _ => ?_)⟩, (HKS.out.mono (fun c _ h => h.2.1)).trans (kA.mono (fun _ _ _ => trivial))⟩
    exact ⟨by simp [pops], rfl, rfl, by simp [pops]⟩
  have HGX := hide hGx
  have HON := hide hon
  have HOL := hide hol
  have HOO := hide ho
  clear kA hV2 d0 v0 v1 v2 v3 hge hGx hon hol ho hp
  go_upto_region 7 with fail
  go_loopg [5] (s.opn.length) (fun g s5 wr => ∃ (D R : List Nat) (lv : Int), s5 = .int .i64 lv ∧ Hid (g = R.length) ∧ Hid (LC s x G O r n lo T V W (.slice (some ⟨b, 0, none⟩) k cap) D R lv wr))
  case atStart => exact ⟨[], s.opn, -1, rfl, rfl, HL⟩
  case round =>
    obtain ⟨D, R, lv, rfl, hg, hL⟩ := hrel
    by_cases hlv : lv = (x : Int)
    · have HF := hide (LC.fin (hlv ▸ hL.out))
      have hne : (lv != (x : Int)) = false := by simp [hlv]
      clear hL hlv
      go_wp2_with fail
      go_end0
      exact ⟨rfl, HF.out⟩
    · have hne : (lv != (x : Int)) = true := by simp [hlv]
      obtain ⟨ov1, hm⟩ := hL.out.mw
      obtain ⟨z, R2, hR, hzo⟩ : ∃ z R2, R = z :: R2 ∧ z ∈ s.opn := by
        rcases hL.out.st with ⟨R', hG, hR, -⟩ | ⟨-, -, e⟩
        · rw [hR, HOO.out, hG]
          cases R' with
          | nil => exact ⟨x, O, rfl, by simp⟩
          | cons u R'' => exact ⟨u, R'' ++ x :: O, rfl, by simp⟩
        · exact absurd e hlv
      subst hR
      have hzn := HON.out z hzo
      obtain ⟨q, hq⟩ : ∃ q, q = R2.length := ⟨_, rfl⟩
      obtain ⟨M, hM⟩ : ∃ M, M = q + 1 := ⟨_, rfl⟩
      obtain ⟨oa, oc, rfl, hoc1, hoc2, hos⟩ := hm.ro.shape
      have hrl : (pops s x D (z :: R2) r).opn.reverse.length = M := by show (z :: R2).reverse.length = M; simp [hM, hq]
      rw [hrl] at hm hoc1
      rcases hos with e | ⟨ob, rfl, hob, hobl⟩
      · exact absurd e (by show ¬ (z :: R2).reverse = []; simp)
      have hle : M ≤ s.opn.length := by
        have h1 := hL.out.st
        rcases h1 with ⟨R', hG, hR, -⟩ | ⟨-, -, e⟩
        · have h2 : (z :: R2).length = R'.length + 1 + O.length := by rw [hR]; simp; omega
          have h3 : s.opn.length = D.length + R'.length + (1 + O.length) := by rw [HOO.out, hG]; simp; omega
          simp at h2; omega
        · exact absurd e hlv
      have hMb : M ≤ 1048576 := by have := HOL.out; omega
      have c2 := hm.bx.cel 2 _ rfl
      have f2 := hm.bx.live 2
      have c0 := hm.bx.cel 0 _ rfl
      have cz := hm.ro.cell q (by rw [hrl]; omega)
      have hzv : (pops s x D (z :: R2) r).opn.reverse.getD q 0 = z := by show (z :: R2).reverse.getD q 0 = z; rw [List.reverse_cons, hq]; simp [List.getD_eq_getElem?_getD]
      rw [hzv] at cz
      unfold iv at cz
      have w0 := hm.get hzn (by decide : 0 < 4)
      have w3 := hm.get hzn (by decide : 3 < 4)
      have g0 := hm.vf (z * 4)
      have g3 := hm.vf (z * 4 + 3)
      rw [hM] at hm
      have HS := hide (hL.out.step hlv HGX.out hzn hq hm)
      have hqi : (M : Int) - 1 = (q : Int) := by omega
      have hqM : (q : Int) < (M : Int) := by omega
      have hqM2 : (q : Int) ≤ (M : Int) := by omega
      have hqc : q ≤ oc := by omega
      have hzi : (z : Int) < n := by omega
      have HZV := hide (And.intro hm.tv (And.intro (show M = q + 1 from hM) hq))
      have HZG := hide hg.out
      have hx0 : wr.cell? ⟨V, z * 4, none⟩ = some (iv (fld (pops s x D (z :: R2) r) 0 z)) := w0
      clear hL hm hq hM hob hobl hoc1 hoc2 hrl hzv hzo hle hlv w0
      have n1 : ∀ i j : Nat, (⟨T, i, none⟩ : Addr) ≠ ⟨V, j, none⟩ := fun i j e => by
        simp only [Addr.mk.injEq, and_true] at e
        exact HZV.out.1 e.1
      have n2 : ∀ i j : Nat, i ≠ j → (⟨V, i, none⟩ : Addr) ≠ ⟨V, j, none⟩ := fun i j h e => by
        simp only [Addr.mk.injEq, and_true, true_and] at e
        exact h e
      have n3 : ∀ i j : Nat, i ≠ j → (⟨T, i, none⟩ : Addr) ≠ ⟨T, j, none⟩ := fun i j h e => by
        simp only [Addr.mk.injEq, and_true, true_and] at e
        exact h e
      obtain ⟨U1, hU1⟩ : ∃ U1, wr.setCell ⟨T, 2, none⟩ (.slice (some ⟨ob, 0, none⟩) q oc) = U1 := ⟨_, rfl⟩
      have p0 : U1.cell? ⟨T, 0, none⟩ = some (.slice (some ⟨V, 0, none⟩) n n) := by rw [← hU1, World.cell?_setCell_other _ _ _ _ (n3 _ _ (by omega))]; exact c0
      have p3 : U1.cell? ⟨V, z * 4 + 3, none⟩ = some (iv (fld (pops s x D (z :: R2) r) 3 z)) := by rw [← hU1, World.cell?_setCell_other _ _ _ _ (n1 _ _)]; exact w3
      have p4 : U1.cell? ⟨V, z * 4, none⟩ = some (iv (fld (pops s x D (z :: R2) r) 0 z)) := by rw [← hU1, World.cell?_setCell_other _ _ _ _ (n1 _ _)]; exact hx0
      have pf0 : U1.frozen? ⟨V, z * 4, none⟩ = false := by rw [← hU1, World.frozen?_setCell]; exact g0
      have pf3 : U1.frozen? ⟨V, z * 4 + 3, none⟩ = false := by rw [← hU1, World.frozen?_setCell]; exact g3
      obtain ⟨U2, hU2⟩ : ∃ U2, U1.setCell ⟨V, z * 4 + 3, none⟩ (.int .i64 (x : Int)) = U2 := ⟨_, rfl⟩
      have r0 : U2.cell? ⟨T, 0, none⟩ = some (.slice (some ⟨V, 0, none⟩) n n) := by rw [← hU2, World.cell?_setCell_other _ _ _ _ (fun e => n1 _ _ e.symm)]; exact p0
      have r4 : U2.cell? ⟨V, z * 4, none⟩ = some (iv (fld (pops s x D (z :: R2) r) 0 z)) := by rw [← hU2, World.cell?_setCell_other _ _ _ _ (n2 _ _ (by omega))]; exact p4
      have rf0 : U2.frozen? ⟨V, z * 4, none⟩ = false := by rw [← hU2, World.frozen?_setCell]; exact pf0
      have hS2 := HS.out
      rw [hU1] at hS2
      have hS3 : LC s x G O r n lo T V W (.slice (some ⟨b, 0, none⟩) k cap) (D ++ [z]) R2 (z : Int) (U2.setCell ⟨V, z * 4, none⟩ (.int .i64 9223372036854775807)) := by
        rw [← hU2]; exact hS2
      have HS3 := hide hS3
      have HU1 := hide hU1
      have HU2 := hide hU2
      clear hS2 hS3 hU1 hU2 n1 n2 n3 g0 g3 w3 hx0 HS
      go_upto_region 8 with fail
      go_region
      go_upto_region 9 with fail
      go_region
      rw [HU1.out]
      go_upto_region 11 with fail
      rw [HU2.out]
      go_wp2_with fail
      go_roundg R2.length
      case measure => rw [HZG.out]; simp
      case rel => exact ⟨D ++ [z], R2, (z : Int), rfl, rfl, HS3.out.drew.drew⟩
end Go.Proofs.Ytmnligaelihmiaa
