import Derived.Test.YtppfohpgcofkbaaDb
namespace Go.Proofs.Ytppfohpgcofkbaa
open Go.RowKit Go.Shelf Go.Joins

attribute [local go_sem] Oper.semAt_some

/-- The walk at the head of its loop; m: what is left to do. -/
def NInv (fb : Nat) (J : Nat → (Nat → Prop) → World → Prop) (LL : List (Nat × Nd)) (n0 B : Nat) (v : Value) (wr : World) (m : Nat) : Prop :=
  ∃ (st : List Lev) (O : Nat → Prop) (i g c : Nat), v = .slice (some ⟨g, 0, none⟩) st.length c ∧ m = 2 * (flat st).length + st.length ∧ Stk wr B g c st ∧ O g ∧ flat st = LL.drop i ∧ i ≤ LL.length ∧
      st.length ≤ i + 1 ∧ J i O wr ∧ (∀ l ∈ st, l.Ok wr (fun b => O b ∧ b ≠ g) ∧ (∀ d ∈ l.L, d.Ok wr (fun b => b < n0)) ∧ ndsz l.L ≤ 16777216) ∧ B ≤ wr.heap.size ∧ (∀ b, O b → NB wr b ∧ B ≤ b) ∧ wr.cell? ⟨fb, 0, none⟩ = some (.func (.func 43) #[] #[])

/-- What is known of the stack in a world. -/
structure StI (fb n0 B g c : Nat) (O : Nat → Prop) (st : List Lev) (wr : World) : Prop where
  stk : Stk wr B g c st
  og : O g
  lev : ∀ l ∈ st, l.Ok wr (fun b => O b ∧ b ≠ g) ∧ (∀ d ∈ l.L, d.Ok wr (fun b => b < n0)) ∧ ndsz l.L ≤ 16777216
  ge : B ≤ wr.heap.size
  nb : ∀ b, O b → NB wr b ∧ B ≤ b
  fn : wr.cell? ⟨fb, 0, none⟩ = some (.func (.func 43) #[] #[])

theorem StI.kept {fb n0 B g c : Nat} {O S : Nat → Prop} {st : List Lev} {A C : World} (h : StI fb n0 B g c O st A) (k : Kept S A C) (hO : ∀ b, O b → S b) (hn : ∀ b, b < n0 → S b) (hB : n0 ≤ B) (hf : S fb) : StI fb n0 B g c O st C := by
  have hz := k.size
  have hg := h.ge
  refine ⟨h.stk.kept k (hO g h.og), h.og, fun l hl => ?_, by omega, fun b hb => ⟨(h.nb b hb).1.kept k (hO b hb), (h.nb b hb).2⟩, (k.cell (p := ⟨fb, 0, none⟩) (block_lt_of_cell h.fn) hf).trans h.fn⟩
  obtain ⟨h1, h2, h3⟩ := h.lev l hl
  exact ⟨h1.kept k (fun b hb => ⟨hO b hb.1, (h.nb b hb.1).1.lt⟩), fun d hd => (h2 d hd).kept k (fun b hb => ⟨hn b hb, by omega⟩), h3⟩

set_option maxRecDepth 100000 in
set_option maxHeartbeats 4000000 in
theorem nodes_seq (n : Nat) (hn : 1 ≤ n) (rb n0 : Nat) (d : Nd) (w : World) (fb : Nat) (hfb : w.cell? ⟨fb, 0, none⟩ = some (.func (.func 43) #[] #[])) (hn0 : n0 ≤ w.heap.size)
    (hrb : w.cell? ⟨rb, 0, none⟩ = some d.ptr) (hd : d.Ok w (fun b => b < n0)) (hsz : d.x.size ≤ 16777216) (N : Nat) (hN : (preL [d] 1).length = N) (hNl : N ≤ 16777216) :
    Seq (P := Try.prog) Fence.wide n 48 #[.pointer (some ⟨rb, 0, none⟩), .pointer (some ⟨fb, 0, none⟩)] (encsOf (preL [d] 1)) N (fun b => b < n0 ∨ b = fb) w := by
  intro l J Jx W hW hJ hJx hY h0
  have hfl0 : fb < w.heap.size := block_lt_of_cell hfb
  have hrl0 : rb < w.heap.size := block_lt_of_cell hrb
  have hfW := (hW.cell (p := ⟨fb, 0, none⟩) hfl0).trans hfb
  have hrW := (hW.cell (p := ⟨rb, 0, none⟩) hrl0).trans hrb
  have hzW := hW.size
  have hdW := hd.kept (Kept.of_below (S := fun b => b < n0) hW (fun b _ hb => by omega)) (fun b hb => ⟨hb, by omega⟩)
  simp only [Nd.ptr] at hrW
  refine callsIn_of_wp Try.func48 rfl trivial ?_ rfl
  simp only [Try.ntmps48, List.size_toArray, List.length_cons, List.length_nil, Nat.reduceAdd, Nat.reduceSub, Array.replicate_succ, Array.replicate_zero, List.push_toArray, List.append_toArray, List.nil_append, List.cons_append]
  gi_wp2_with fail
  obtain ⟨W0, hW0⟩ : ∃ W0, (W.alloc (.cells #[.pointer (some ⟨d.b, d.o, none⟩)] 57)).alloc (.cells #[.slice (some ⟨W.heap.size, 0, none⟩) 1 1] 93) = W0 := ⟨_, rfl⟩
  have hk0 : ∀ S, Kept S W W0 := fun S => by rw [← hW0]; exact (Kept.alloc _ _ _).trans (Kept.alloc _ _ _)
  have hz0 : W0.heap.size = W.heap.size + 1 + 1 := by rw [← hW0]; simp
  have hq : W0.cell? ⟨W.heap.size, 0, none⟩ = some d.ptr := by
    rw [← hW0]
    refine ((Kept.alloc (fun _ => True) _ _).cell (p := ⟨W.heap.size, 0, none⟩) (by simp) trivial).trans ?_
    simp [Nd.ptr]
  have hst : Stk W0 W.heap.size (W.heap.size + 1) 1 [⟨some ⟨W.heap.size, 0, none⟩, 1, [d]⟩] := by
    rw [← hW0]
    have := World.ownsRow_lit (base := W.heap.size) (e := 93) (size := 1) (W.alloc (.cells #[.pointer (some ⟨d.b, d.o, none⟩)] 57)) #[.slice (some ⟨W.heap.size, 0, none⟩) 1 1] 1 (by simp) (by simp [maxLen]) rfl
    rw [World.size_alloc] at this
    exact ⟨this⟩
  have hok : Lev.Ok W0 (fun b => (b = W.heap.size ∨ b = W.heap.size + 1) ∧ b ≠ W.heap.size + 1) ⟨some ⟨W.heap.size, 0, none⟩, 1, [d]⟩ := by
    refine ⟨Nat.le_refl _, by simp [maxLen], fun _ => ⟨_, _, rfl, ⟨.inl rfl, by omega⟩, fun i y hy => ?_⟩⟩
    cases i with
    | zero =>
      simp only [List.getElem?_cons_zero, Option.some.injEq] at hy
      subst hy
      exact hq
    | succ i => simp at hy
  have hJ0 : J 0 (fun b => b = W.heap.size ∨ b = W.heap.size + 1) W0 := hJ 0 _ _ _ _ h0 (hk0 _) (fun b x => .inr (by omega))
  have hnb0 : ∀ b, (b = W.heap.size ∨ b = W.heap.size + 1) → NB W0 b ∧ W.heap.size ≤ b := by
    rintro b (rfl | rfl)
    · exact ⟨by rw [← hW0]; exact (NB.new _ _ _ (by decide)).kept (Kept.alloc (fun _ => True) _ _) trivial, Nat.le_refl _⟩
    · refine ⟨?_, by omega⟩
      rw [← hW0]
      have := NB.new (W.alloc (.cells #[.pointer (some ⟨d.b, d.o, none⟩)] 57)) #[.slice (some ⟨W.heap.size, 0, none⟩) 1 1] 93 (by decide)
      rwa [World.size_alloc] at this
  have hflat : flat [⟨some ⟨W.heap.size, 0, none⟩, 1, [d]⟩] = preL [d] 1 := by simp [flat]
  generalize preL [d] 1 = LL at hflat hN hY ⊢
  rw [hW0]
  clear hW0
  have hn0B : n0 ≤ W.heap.size := Nat.le_trans hn0 hzW
  gi_loopw [4] (fun v wr => ∃ m, NInv fb J LL n0 W.heap.size v wr m) (fun v wr => least (NInv fb J LL n0 W.heap.size v wr))
  case atStart => exact ⟨_, _, _, 0, W.heap.size + 1, 1, rfl, rfl, hst, .inr rfl, by rw [hflat]; rfl, Nat.zero_le _, by simp, hJ0, fun L hL => by
    rw [List.mem_singleton] at hL
    subst hL
    refine ⟨hok, fun y hy => ?_, by simp [ndsz]; omega⟩
    rw [List.mem_singleton] at hy
    subst hy
    exact hdW.kept (hk0 (fun _ => True)) (fun b hb => ⟨trivial, by omega⟩), by omega, hnb0, ((hk0 (fun _ => True)).cell (p := ⟨fb, 0, none⟩) (by show fb < W.heap.size; omega) trivial).trans hfW⟩
  case round =>
    have hmin := least_spec hrel
    clear hrel
    obtain ⟨st, O, i, g, c, hv, hMe, hst', hOg, hfl, hi, hsti, hJi, hoks, hzr, hOb, hfc⟩ := hmin
    subst hv
    have HM : Hid (least (NInv fb J LL n0 W.heap.size (.slice (some ⟨g, 0, none⟩) st.length c) wr) = 2 * (flat st).length + st.length) := hMe
    clear hst hok hJ0 hflat hq hk0 hz0 hMe
    have hroom := hst'.room
    have hmx : maxLen = 9223372036854775807 := rfl
    cases st with
    | nil =>
      simp only [List.length_nil]
      gi_wp2_with fail
      go_end0
      have e : i = LL.length := by
        have := congrArg List.length hfl
        simp [flat] at this
        omega
      exact ⟨⟨_, rfl⟩, .inl ⟨O, by rw [← hN, ← e]; exact hJi⟩⟩
    | cons L st =>
      simp only [List.length_cons] at hroom hsti HM ⊢
      have htop := hst'.top
      obtain ⟨la, lc, lL⟩ := L
      simp only [Lev.val] at htop
      have hokL := hoks _ (List.mem_cons_self)
      cases lL with
      | nil =>
        simp only [List.length_nil] at htop
        gi_wp2_with fail
        go_roundw
        case rel => exact ⟨_, st, O, i, g, c, rfl, rfl, hst'.pop, hOg, by rw [← hfl]; simp [flat, preL_nil], hi, by omega, hJi, fun L hL => hoks L (List.mem_cons_of_mem _ hL), hzr, hOb, hfc⟩
        case measure =>
          have h1 : NInv fb J LL n0 W.heap.size (.slice (some ⟨g, 0, none⟩) st.length c) wr (2 * (flat st).length + st.length) :=
            ⟨st, O, i, g, c, rfl, rfl, hst'.pop, hOg, by rw [← hfl]; simp [flat, preL_nil], hi, by omega, hJi, fun L hL => hoks L (List.mem_cons_of_mem _ hL), hzr, hOb, hfc⟩
          rw [HM.out]
          have := least_le h1
          simp only [flat, preL_nil, List.nil_append] at this ⊢
          omega
      | cons x r =>
        obtain ⟨⟨o1, o2, o3⟩, o4, o5⟩ := hokL
        simp only [List.length_cons] at o1 htop
        obtain ⟨b, o, e, ⟨hb1, hbg⟩, hcc⟩ := o3 (by simp)
        simp only at e
        subst e
        have p0 : wr.cell? ⟨b, o, none⟩ = some (.pointer (some ⟨x.b, x.o, none⟩)) := by simpa [Nd.ptr] using hcc 0 x rfl
        have hxok := o4 x List.mem_cons_self
        have hxsz : x.x.size ≤ 16777216 := Nat.le_trans (nd_le (L := x :: r) List.mem_cons_self) o5
        have hfr := hst'.frozen st.length
        have hgl := hst'.lt
        have hkz : ndsz x.kids ≤ 16777216 := by
          rcases x.kids_sz with h | h
          · rw [h]; simp [ndsz]
          · omega
        have hrz : ndsz r ≤ 16777216 := by
          simp only [ndsz, List.map_cons, List.sum_cons] at o5 ⊢
          omega
        have hil : i < LL.length := by
          have := congrArg List.length hfl
          simp [flat, preL_cons] at this
          omega
        have hLi : LL.getD i (0, ⟨0, 0, .nil⟩) = (st.length + 1, x) := by
          have : LL[i]? = (LL.drop i)[0]? := by simp
          rw [List.getD_eq_getElem?_getD, this, ← hfl]
          simp [flat, preL_cons]
        have hLe : encsOf LL i = #[.int .i64 ((st.length : Int) + 1), .pointer (some ⟨x.b, x.o, none⟩)] := by
          unfold encsOf
          rw [hLi]
          simp [Nd.ptr]
        have hfl2 : preL x.kids (st.length + 1 + 1) ++ (preL r (st.length + 1) ++ flat st) = LL.drop (i + 1) := by
          rw [← List.drop_drop (i := 1) (j := i), ← hfl]
          simp [flat, preL_cons]
        have hYn : ∀ (na : Option Addr), (0 < r.length → na = some ⟨b, o + 1, none⟩) →
            YieldAt Fence.wide (n - 1) Try.prog l #[.int .i64 ((st.length : Int) + 1), .pointer (some ⟨x.b, x.o, none⟩)] (wr.setCell ⟨g, st.length, none⟩ (.slice na r.length (lc - 1)))
              fun e W' => (e = .returned (.bool true) ∧ StI fb n0 W.heap.size g c O (⟨na, lc - 1, r⟩ :: st) W' ∧ J (i + 1) O W' ∧ x.Ok W' (fun b => b < n0)) ∨ (e = .returned (.bool false) ∧ ∃ O, Jx i O W') := by
          intro na hna
          obtain ⟨w2, hw2⟩ : ∃ w2, wr.setCell ⟨g, st.length, none⟩ (.slice na r.length (lc - 1)) = w2 := ⟨_, rfl⟩
          have hkg : Kept (fun y => y ≠ g) wr w2 := by rw [← hw2]; exact Kept.setCell _ _ _ _ (by simp)
          have hz2 : w2.heap.size = wr.heap.size := by rw [← hw2]; simp [World.setCell]
          have hS2 : Stk w2 W.heap.size g c (⟨na, lc - 1, r⟩ :: st) := by rw [← hw2]; exact hst'.set (l' := ⟨na, lc - 1, r⟩)
          have hJ2 : J i O w2 := hJ i O _ wr w2 hJi (hkg.mono (fun b _ h e => h (e ▸ hOg))) (fun b h => .inl h)
          have hn0g : ∀ y, y < n0 → y ≠ g ∧ y < wr.heap.size := fun y hy => ⟨by omega, by omega⟩
          have hlv : ∀ l' ∈ ((⟨na, lc - 1, r⟩ : Lev) :: st), l'.Ok w2 (fun b => O b ∧ b ≠ g) ∧ (∀ d ∈ l'.L, d.Ok w2 (fun b => b < n0)) ∧ ndsz l'.L ≤ 16777216 := by
            intro l' hl'
            rcases List.mem_cons.1 hl' with rfl | hl'
            · refine ⟨⟨by show r.length ≤ lc - 1; omega, by show lc - 1 ≤ maxLen; simp only at o2; omega, fun hl => ⟨b, o + 1, hna hl, ⟨hb1, hbg⟩, fun j y hy => ?_⟩⟩, fun y hy => (o4 y (List.mem_cons_of_mem _ hy)).kept hkg hn0g, hrz⟩
              have h1 := hcc (j + 1) y (by simpa using hy)
              have e2 : o + (j + 1) = o + 1 + j := by omega
              rw [e2] at h1
              exact (hkg.cell (p := ⟨b, o + 1 + j, none⟩) (hOb b hb1).1.lt hbg).trans h1
            · obtain ⟨g1, g2, g3⟩ := hoks l' (List.mem_cons_of_mem _ hl')
              exact ⟨g1.kept hkg (fun y hy => ⟨hy.2, (hOb y hy.1).1.lt⟩), fun y hy => (g2 y hy).kept hkg hn0g, g3⟩
          have hOb2 : ∀ y, O y → NB w2 y ∧ W.heap.size ≤ y := fun y hy => by
            refine ⟨?_, (hOb y hy).2⟩
            by_cases e : y = g
            · subst e; exact hS2.nb
            · exact (hOb y hy).1.kept hkg e
          have hSI : StI fb n0 W.heap.size g c O (⟨na, lc - 1, r⟩ :: st) w2 := ⟨hS2, hOg, hlv, by omega, hOb2, (hkg.cell (p := ⟨fb, 0, none⟩) (block_lt_of_cell hfc) (by show fb ≠ g; omega)).trans hfc⟩
          obtain ⟨fn, tmps, assign, body, hy, hR⟩ := hY i O w2 (by omega) (fun y hy => (hOb2 y hy).1) hJ2
          rw [hLe] at hy
          rw [hw2]
          refine ⟨fn, tmps, assign, body, hy, hR.mono ?_⟩
          rintro e W' ⟨hK, (⟨rfl, hj⟩ | ⟨rfl, hj⟩)⟩
          · exact .inl ⟨rfl, hSI.kept hK (fun y hy => .inl hy) (fun y hy => .inr (.inl hy)) hn0B (.inr (.inr rfl)), hj, (hxok.kept hkg hn0g).kept hK (fun y hy => ⟨.inr (.inl hy), by omega⟩)⟩
          · exact .inr ⟨rfl, _, hj⟩
        have fin : ∀ (na : Option Addr) (W3 W4 w1 : World) (X : Obj) (ka : Option Addr) (kc g' cap' : Nat), StI fb n0 W.heap.size g c O (⟨na, lc - 1, r⟩ :: st) W3 → J (i + 1) O W3 → x.Ok W3 (fun b => b < n0) → Below W3.heap.size W3 W4 → W4.ownsRow W3.heap.size 57 1 (.slice ka x.kids.length kc) x.kids.length (x.kids.map Nd.ptr) →
            w1.ownsRow W.heap.size 93 1 (.slice (some ⟨g', 0, none⟩) (st.length + 1 + 1) cap') (st.length + 1 + 1) (((⟨na, lc - 1, r⟩ :: st : List Lev).map Lev.val).reverse ++ [.slice ka x.kids.length kc]) →
            (W4.alloc X).grownBy w1 (some g) → (some g' = some g ∨ some g' = some (W4.alloc X).heap.size) →
            NInv fb J LL n0 W.heap.size (.slice (some ⟨g', 0, none⟩) (st.length + 1 + 1) cap') w1 (2 * (preL x.kids (st.length + 1 + 1) ++ (preL r (st.length + 1) ++ flat st)).length + (st.length + 1 + 1)) := by
          intro na W3 W4 w1 X ka kc g' cap' hS3 hj3 hx3 b4 hown4 hown hgrow hat
          have z4 := b4.size
          have hg3 := hS3.stk.lt
          obtain ⟨lv4, nb4⟩ := lev_of hown4
          have k4 : Kept (fun _ => True) W3 W4 := kt b4
          have k5 : Kept (fun y => y ≠ g) W4 w1 := (Kept.alloc _ _ _).trans (Kept.grown hgrow (fun y e h => by cases e; exact h rfl))
          have z5 := k5.size
          have hX : ∀ y, (O y ∧ y ≠ g) → y ≠ g ∧ y < W4.heap.size := fun y hy => ⟨hy.2, by have := (hS3.nb y hy.1).1.lt; omega⟩
          have hN : ∀ y, y < n0 → y ≠ g ∧ y < W4.heap.size := fun y hy => ⟨by omega, by have := hS3.ge; omega⟩
          have hg'l : g' < w1.heap.size := (World.ownsRow.lt hown g' rfl).2
          have hgB : W.heap.size ≤ g' := (World.ownsRow.lt hown g' rfl).1
          have hgo : g' = g ∨ W4.heap.size ≤ g' := by
            rcases hat with e | e
            · cases e; exact .inl rfl
            · simp only [World.size_alloc, Option.some.injEq] at e
              exact .inr (by omega)
          have hjx : J (i + 1) (fun y => (O y ∧ y ≠ g) ∨ (Value.slice ka x.kids.length kc).ownBlock = some y ∨ y = g') w1 := by
            refine hJ _ _ _ _ _ hj3 ((k4.mono (fun _ _ _ => trivial)).trans (k5.mono (fun y _ h e => h (e ▸ hS3.og)))) (fun y hy => ?_)
            rcases hy with hy | hy | hy
            · exact .inl hy.1
            · exact .inr (by have := (nb4 y hy).2; omega)
            · rcases hgo with e | e
              · rw [hy, e]; exact .inl hS3.og
              · exact .inr (by omega)
          refine ⟨⟨ka, kc, x.kids⟩ :: ⟨na, lc - 1, r⟩ :: st, fun y => (O y ∧ y ≠ g) ∨ (Value.slice ka x.kids.length kc).ownBlock = some y ∨ y = g', i + 1, g', cap', rfl, rfl, ⟨?_⟩, .inr (.inr rfl), hfl2, by omega, by simp only [List.length_cons]; omega, hjx, ?_, by have := hS3.ge; omega, ?_, ?_⟩
          · simp only [List.length_cons, List.map_cons, List.reverse_cons, List.append_assoc] at hown ⊢
            exact hown
          · intro l' hl'
            rcases List.mem_cons.1 hl' with rfl | hl'
            · refine ⟨(lv4.kept k5 (fun y hy => ⟨?_, (nb4 y hy).1.lt⟩)).mono (fun y hy => ⟨.inr (.inl hy), ?_⟩), fun y hy => ((x.kids_ok hx3 y hy).kept k4 (fun z hz => ⟨trivial, by have := hS3.ge; omega⟩)).kept k5 hN, hkz⟩
              · have := (nb4 y hy).2
                show y ≠ g
                omega
              · have h1 := (nb4 y hy).2
                have h2 := (nb4 y hy).1.lt
                rcases hgo with e | e
                · omega
                · omega
            · obtain ⟨g1, g2, g3⟩ := hS3.lev l' hl'
              refine ⟨((g1.kept k4 (fun y hy => ⟨trivial, (hS3.nb y hy.1).1.lt⟩)).kept k5 hX).mono (fun y hy => ⟨.inl hy, ?_⟩), fun y hy => ((g2 y hy).kept k4 (fun z hz => ⟨trivial, by have := hS3.ge; omega⟩)).kept k5 hN, g3⟩
              have := (hS3.nb y hy.1).1.lt
              rcases hgo with e | e
              · rw [e]; exact hy.2
              · omega
          · intro y hy
            rcases hy with hy | hy | hy
            · exact ⟨((hS3.nb y hy.1).1.kept k4 trivial).kept k5 hy.2, (hS3.nb y hy.1).2⟩
            · refine ⟨(nb4 y hy).1.kept k5 ?_, by have := (nb4 y hy).2; have := hS3.ge; omega⟩
              have := (nb4 y hy).2
              show y ≠ g
              omega
            · subst hy
              refine ⟨?_, hgB⟩
              rcases hown.2 with ⟨h', _⟩ | ⟨g2, cap2, cur, h', hb', hg2, hr2⟩
              · simp at h'
              · simp only [Value.slice.injEq, Option.some.injEq, Addr.mk.injEq, and_true, true_and] at h'
                obtain ⟨rfl, rfl⟩ := h'
                exact NB.cells hg2 (by decide)
          · exact (k5.cell (p := ⟨fb, 0, none⟩) (by have := block_lt_of_cell hS3.fn; show fb < _; omega) (by show fb ≠ g; omega)).trans ((k4.cell (p := ⟨fb, 0, none⟩) (block_lt_of_cell hS3.fn) trivial).trans hS3.fn)
        have hmeas : 2 * (preL x.kids (st.length + 1 + 1) ++ (preL r (st.length + 1) ++ flat st)).length + (st.length + 1 + 1) < 2 * (flat (⟨some ⟨b, o, none⟩, lc, x :: r⟩ :: st)).length + (st.length + 1) := by
          simp only [flat, preL_cons, List.length_cons, List.length_append]
          omega
        have FIN := hide fin
        have HME := hide hmeas
        clear fin hmeas
        have hxlen : st.length + 1 ≤ 16777217 := by omega
        by_cases hlc : lc = 1
        · subst hlc
          obtain ⟨fn, tmps, assign, body, hy, hR⟩ := hYn (some ⟨b, o, none⟩) (fun h => by omega)
          have hr0 : r = [] := List.length_eq_zero_iff.1 (by omega)
          subst hr0
          simp only [Nat.sub_self, List.length_nil] at hy htop
          clear o1 o3
          clear hYn
          gi_wp2_with fail
          refine hR.mono ?_
          rintro e W3 (⟨rfl, hS3, hj3, hx3⟩ | ⟨rfl, O', hj'⟩)
          · have hf3 := hS3.fn
            have hl3 := hS3.stk.lt
            have hge3 := hS3.ge
            obtain ⟨i0, hi0, hz0, hz1, hz2⟩ := info_parts Try.info93
            have HC := hide (i_below x W3 ⟨hx3.fit, hx3.cel, hx3.subs.mono (fun y hy => by omega), by have := hx3.at_; omega⟩ hxsz)
            have HS3 := hide hS3
            have HJ3 := hide hj3
            have HX3 := hide hx3
            have HOW : Hid (∀ W4, Below W3.heap.size W3 W4 → W4.ownsRow W.heap.size 93 1 (.slice (some ⟨g, 0, none⟩) (st.length + 1) c) (st.length + 1) (((⟨some ⟨b, o, none⟩, 1 - 1, []⟩ :: st : List Lev).map Lev.val).reverse)) := fun W4 b4 => ownsRow_kept hS3.stk.own (kt (S := fun _ => True) b4) (fun _ _ => trivial)
            have HRM : Hid (st.length + 1 + 1 ≤ maxLen ∧ (st.length + 1 + 1) * 24 ≤ 140737488355328) := by
              have h1 := hN
              unfold Hid maxLen
              omega
            have HKL : Hid (∃ kl, kl = x.kids.length) := ⟨_, rfl⟩
            obtain ⟨kl, hkl⟩ := HKL.out
            have HKE := hide hkl
            have HN3 : Hid (W.heap.size ≤ W3.heap.size) := hge3
            clear hS3 hj3 hx3 hge3 hkl
            simp only [Nd.ptr] at HC
            gi_wp2_with (first
              | (refine ⟨trivial, ?_⟩; gi_at_call 43; refine (callsIn_wide.2 HC.out).mono ?_; rintro e W4 ⟨ka, kc, rfl, hown4, b4⟩; rw [← HKE.out]; have HB4 := hide b4; have HO4 := hide hown4; clear b4 hown4)
              | (gi_at_builtin; refine wpListIn_append_at _ rfl _ _ 113 rfl W.heap.size 93 i0 (.slice none 0 0) 1 24 Try.underlying113 hi0 hz0 hz1 hz2 rfl (by decide) _ _ _ rfl ((HOW.out W4 HB4.out).alloc _) ⟨W4.heap.size, 0, none⟩ 1 1 [.slice ka kl kc] rfl rfl (cell_one_new W4 (.slice ka kl kc) 93) (by simp [Value.oneCell']) HRM.out.1 HRM.out.2 (by have := HN3.out; have := HB4.out.size; simp; omega) ?_; intro v' w1 hown' hgrow _ hat; obtain ⟨g', cap', rfl⟩ := ownsRow_succ hown'))
            rw [HKE.out] at hown'
            go_roundw
            case rel => exact ⟨_, FIN.out _ W3 W4 w1 _ ka kc g' cap' HS3.out HJ3.out HX3.out HB4.out HO4.out hown' hgrow hat⟩
            case measure =>
              rw [HM.out]
              exact Nat.lt_of_le_of_lt (least_le (FIN.out _ W3 W4 w1 _ ka kc g' cap' HS3.out HJ3.out HX3.out HB4.out HO4.out hown' hgrow hat)) HME.out
          · gi_wp2_with fail
            refine bodyPost_ret (results_none rfl _ _ _) rfl ?_
            exact ⟨⟨_, rfl⟩, .inr ⟨i, O', by omega, hj'⟩⟩
        · obtain ⟨fn, tmps, assign, body, hy, hR⟩ := hYn (some ⟨b, o + 1, none⟩) (fun _ => rfl)
          clear hYn
          gi_wp2_with fail
          refine hR.mono ?_
          rintro e W3 (⟨rfl, hS3, hj3, hx3⟩ | ⟨rfl, O', hj'⟩)
          · have hf3 := hS3.fn
            have hl3 := hS3.stk.lt
            have hge3 := hS3.ge
            obtain ⟨i0, hi0, hz0, hz1, hz2⟩ := info_parts Try.info93
            have HC := hide (i_below x W3 ⟨hx3.fit, hx3.cel, hx3.subs.mono (fun y hy => by omega), by have := hx3.at_; omega⟩ hxsz)
            have HS3 := hide hS3
            have HJ3 := hide hj3
            have HX3 := hide hx3
            have HOW : Hid (∀ W4, Below W3.heap.size W3 W4 → W4.ownsRow W.heap.size 93 1 (.slice (some ⟨g, 0, none⟩) (st.length + 1) c) (st.length + 1) (((⟨some ⟨b, o + 1, none⟩, lc - 1, r⟩ :: st : List Lev).map Lev.val).reverse)) := fun W4 b4 => ownsRow_kept hS3.stk.own (kt (S := fun _ => True) b4) (fun _ _ => trivial)
            have HRM : Hid (st.length + 1 + 1 ≤ maxLen ∧ (st.length + 1 + 1) * 24 ≤ 140737488355328) := by
              have h1 := hN
              unfold Hid maxLen
              omega
            have HKL : Hid (∃ kl, kl = x.kids.length) := ⟨_, rfl⟩
            obtain ⟨kl, hkl⟩ := HKL.out
            have HKE := hide hkl
            have HN3 : Hid (W.heap.size ≤ W3.heap.size) := hge3
            clear hS3 hj3 hx3 hge3 hkl
            simp only [Nd.ptr] at HC
            gi_wp2_with (first
              | (refine ⟨trivial, ?_⟩; gi_at_call 43; refine (callsIn_wide.2 HC.out).mono ?_; rintro e W4 ⟨ka, kc, rfl, hown4, b4⟩; rw [← HKE.out]; have HB4 := hide b4; have HO4 := hide hown4; clear b4 hown4)
              | (gi_at_builtin; refine wpListIn_append_at _ rfl _ _ 113 rfl W.heap.size 93 i0 (.slice none 0 0) 1 24 Try.underlying113 hi0 hz0 hz1 hz2 rfl (by decide) _ _ _ rfl ((HOW.out W4 HB4.out).alloc _) ⟨W4.heap.size, 0, none⟩ 1 1 [.slice ka kl kc] rfl rfl (cell_one_new W4 (.slice ka kl kc) 93) (by simp [Value.oneCell']) HRM.out.1 HRM.out.2 (by have := HN3.out; have := HB4.out.size; simp; omega) ?_; intro v' w1 hown' hgrow _ hat; obtain ⟨g', cap', rfl⟩ := ownsRow_succ hown'))
            rw [HKE.out] at hown'
            go_roundw
            case rel => exact ⟨_, FIN.out _ W3 W4 w1 _ ka kc g' cap' HS3.out HJ3.out HX3.out HB4.out HO4.out hown' hgrow hat⟩
            case measure =>
              rw [HM.out]
              exact Nat.lt_of_le_of_lt (least_le (FIN.out _ W3 W4 w1 _ ka kc g' cap' HS3.out HJ3.out HX3.out HB4.out HO4.out hown' hgrow hat)) HME.out
          · gi_wp2_with fail
            refine bodyPost_ret (results_none rfl _ _ _) rfl ?_
            exact ⟨⟨_, rfl⟩, .inr ⟨i, O', by omega, hj'⟩⟩

end Go.Proofs.Ytppfohpgcofkbaa
