import Derived.Test.YtfgmgbkiebeeoaaVe
import Derived.Test.YtfgmgbkiebeeoaaVf
import Derived.Deep.RegionLaw
import Derived.Laws.EntriesVeiled
namespace Go.Proofs.Ytfgmgbkiebeeoaa
open Go.RowKit Go.Joins

/-- What is known ahead of the measuring. -/
structure MG (g : Gr) (W : World) (G nb lsb cn cm : Nat) : Prop where
  ok : g.Ok
  pos : 1 ≤ g.nt ∧ 1 ≤ g.nl
  nc : g.nt ≤ cn ∧ g.nl ≤ cm
  n8 : W.cell? ⟨G, 8, none⟩ = some (.slice (some ⟨nb, 0, none⟩) g.nt cn)
  n9 : W.cell? ⟨G, 9, none⟩ = some (.slice (some ⟨lsb, 0, none⟩) g.nl cm)
  nd : ∀ k, k < g.nt → W.cell? ⟨nb, k * 3 + 1, none⟩ = some (.int .i64 (g.pl k)) ∧ W.cell? ⟨nb, k * 3 + 1 + 1, none⟩ = some (.int .i64 (g.ql k))
  ls : ∀ l, l < g.nl → W.cell? ⟨lsb, l * 2, none⟩ = some (.int .i64 (g.fst l)) ∧ W.cell? ⟨lsb, l * 2 + 1, none⟩ = some (.int .i64 (g.cnt l))
  lim : ∀ p q, p < g.nl → q < g.nl → g.sL p ≤ 400000000 ∧ g.sL q ≤ 400000000

theorem RR.kept {A B : World} {b n k : Nat} {S : Nat → Prop} (h : RR A b n k) (kk : Kept S A B) (hb : S b) : RR B b n k := by
  obtain ⟨cur, h1, h2, h3⟩ := h
  exact ⟨cur, (kk.block b (Array.getElem?_eq_some_iff.1 h1).1 hb).trans h1, h2, h3⟩
theorem RR.lt {A : World} {b n k : Nat} (h : RR A b n k) : b < A.heap.size := by
  obtain ⟨cur, h1, -⟩ := h
  exact (Array.getElem?_eq_some_iff.1 h1).1

theorem be_alloc {W X : World} (h : Below W.heap.size W X) (o : Obj) : Below W.heap.size W (X.alloc o) := h.alloc h.size o
theorem be_call {W X Y : World} (h : Below W.heap.size W X) (k : Below X.heap.size X Y) : Below W.heap.size W Y := h.trans (k.mono h.size)

def zM : List Value := [.pointer none, .nilFunc, .slice none 0 0, .slice none 0 0, .slice none 0 0]
/-- The meter's box, not yet filled. -/
def Bq (X : World) (b : Nat) : Prop := Bx X b zM
theorem Bq.new (X : World) : Bq (X.alloc (.cells #[.pointer none, .nilFunc, .slice none 0 0, .slice none 0 0, .slice none 0 0] 105)) X.heap.size := Bx.new X zM 105
theorem Bq.new1 (X : World) (o : Obj) : Bq ((X.alloc o).alloc (.cells #[.pointer none, .nilFunc, .slice none 0 0, .slice none 0 0, .slice none 0 0] 105)) (X.heap.size + 1) := by have := Bq.new (X.alloc o); rwa [World.size_alloc] at this
theorem Bq.new2 (X : World) (o o' : Obj) : Bq (((X.alloc o).alloc o').alloc (.cells #[.pointer none, .nilFunc, .slice none 0 0, .slice none 0 0, .slice none 0 0] 105)) (X.heap.size + 1 + 1) := by have := Bq.new ((X.alloc o).alloc o'); rwa [World.size_alloc, World.size_alloc] at this
theorem Bq.alloc {X : World} {b : Nat} (h : Bq X b) (o : Obj) : Bq (X.alloc o) b := h.below (below_alloc1 _ _)
theorem Bq.drew {X : World} {b : Nat} (h : Bq X b) : Bq X.drew b := h.below (Below.refl _ _).drew
theorem Bq.call {X Y : World} {b : Nat} (h : Bq X b) (k : Below X.heap.size X Y) : Bq Y b := h.below k
theorem dle (a b : Nat) (h : a ≤ b) : a ≤ b := h
theorem dsz (w : World) : w.drew.heap.size = w.heap.size := rfl
theorem Bq.cells {X : World} {b : Nat} (h : Bq X b) : (X.cell? ⟨b, 0, none⟩ = some (.pointer none) ∧ X.cell? ⟨b, 1, none⟩ = some .nilFunc ∧ X.cell? ⟨b, 2, none⟩ = some (.slice none 0 0) ∧ X.cell? ⟨b, 3, none⟩ = some (.slice none 0 0) ∧ X.cell? ⟨b, 4, none⟩ = some (.slice none 0 0)) ∧ X.frozen? ⟨b, 0, none⟩ = false ∧ X.frozen? ⟨b, 1, none⟩ = false ∧ X.frozen? ⟨b, 2, none⟩ = false ∧ X.frozen? ⟨b, 3, none⟩ = false ∧ X.frozen? ⟨b, 4, none⟩ = false :=
  ⟨⟨h.cel 0 _ rfl, h.cel 1 _ rfl, h.cel 2 _ rfl, h.cel 3 _ rfl, h.cel 4 _ rfl⟩, h.live 0, h.live 1, h.live 2, h.live 3, h.live 4⟩
theorem RR.call {X Y : World} {b n k : Nat} (h : RR X b n k) (c : Below X.heap.size X Y) : RR Y b n k := h.kept (kt (S := fun _ => True) c) trivial
theorem RR.alloc {X : World} {b n k : Nat} (h : RR X b n k) (o : Obj) : RR (X.alloc o) b n k := h.call (below_alloc1 _ _)
theorem RR.drew {X : World} {b n k : Nat} (h : RR X b n k) : RR X.drew b n k := h

/-- Cells of ours that are kept by what makes new blocks. -/
def Cl (X : World) (b : Nat) (v : Value) : Prop := X.cell? ⟨b, 0, none⟩ = some v
theorem Cl.new (X : World) (v : Value) (t : TypeId) : Cl (X.alloc (.cells #[v] t)) X.heap.size v := by simp [Cl]
theorem Cl.new1 (X : World) (o : Obj) (v : Value) (t : TypeId) : Cl ((X.alloc o).alloc (.cells #[v] t)) (X.heap.size + 1) v := by have := Cl.new (X.alloc o) v t; rwa [World.size_alloc] at this
theorem Cl.new2 (X : World) (o o' : Obj) (v : Value) (t : TypeId) : Cl (((X.alloc o).alloc o').alloc (.cells #[v] t)) (X.heap.size + 1 + 1) v := by have := Cl.new ((X.alloc o).alloc o') v t; rwa [World.size_alloc, World.size_alloc] at this
theorem Cl.alloc {X : World} {b : Nat} {v : Value} (h : Cl X b v) (o : Obj) : Cl (X.alloc o) b v := ((below_alloc1 X o).cell (p := ⟨b, 0, none⟩) (block_lt_of_cell h)).trans h
theorem Cl.call {X Y : World} {b : Nat} {v : Value} (h : Cl X b v) (k : Below X.heap.size X Y) : Cl Y b v := (k.cell (p := ⟨b, 0, none⟩) (block_lt_of_cell h)).trans h
theorem Cl.drew {X : World} {b : Nat} {v : Value} (h : Cl X b v) : Cl X.drew b v := h

def fM (G tb lb nt nl : Nat) : List Value := [.pointer (some ⟨G, 0, none⟩), .func (.func 22) #[] #[], .slice (some ⟨tb, 0, none⟩) nt nt, .slice (some ⟨lb, 0, none⟩) nl nl, .slice none 0 0]

theorem RR.at {X : World} {b n : Nat} (h : RR X b n n) : (∀ k, k < n → X.cell? ⟨b, k, none⟩ = some (.int .i64 (-1))) ∧ ∀ j, X.frozen? ⟨b, j, none⟩ = false := by
  obtain ⟨cur, h1, h2, h3⟩ := h
  refine ⟨fun k hk => ?_, fun j => by simp [World.frozen?, h1]⟩
  have := h3 k hk
  simp [World.cell?, h1, this]

theorem fin0 {g : Gr} {W X Y : World} {G nb lsb cn cm tb lb B lo : Nat} (h : MG g W G nb lsb cn cm) (be : Below W.heap.size W X) (rt : RR X tb g.nt g.nt) (rl : RR X lb g.nl g.nl) (htb : W.heap.size ≤ tb) (hlb : tb < lb) (hB : W.heap.size ≤ B) (n1 : B ≠ tb) (n2 : B ≠ lb) (k : Kept (fun c => c ≠ B) X Y) (bx : Bx Y B (fM G tb lb g.nt g.nl)) (h1 : B < lo) (h2 : X.heap.size ≤ lo) (h3 : lo ≤ Y.heap.size) :
    MC g W lo G nb lsb B tb lb g.nt g.nl cn cm ∧ MS g W lo G B tb lb g.nt g.nl Y (fun _ => -1) (fun _ => -1) [] (.slice none 0 0) := by
  have l1 := rt.lt
  have l2 := rl.lt
  refine ⟨⟨h.ok, ⟨hB, h1⟩, ⟨htb, by omega⟩, ⟨by omega, by omega⟩, ⟨n1, n2, by omega⟩, ⟨Nat.le_refl _, Nat.le_refl _, h.nc.1, h.nc.2⟩, h.n8, h.n9, h.nd, h.ls⟩, ?_⟩
  refine ⟨be.trans (k.below (fun d hd => by omega) be.size), bx, fun i hi => ?_, fun j => ?_, fun i hi => ?_, fun j => ?_, ⟨rfl, .inl ⟨rfl, rfl⟩⟩, h3⟩
  · rw [k.cell (p := ⟨tb, i, none⟩) l1 (fun e => n1 e.symm)]; exact rt.at.1 i hi
  · rw [k.frozen (p := ⟨tb, j, none⟩) l1 (fun e => n1 e.symm)]; exact rt.at.2 j
  · rw [k.cell (p := ⟨lb, i, none⟩) l2 (fun e => n2 e.symm)]; exact rl.at.1 i hi
  · rw [k.frozen (p := ⟨lb, j, none⟩) l2 (fun e => n2 e.symm)]; exact rl.at.2 j

theorem fin1 {g : Gr} {W X : World} {G nb lsb cn cm tb lb B : Nat} (h : MG g W G nb lsb cn cm) (be : Below W.heap.size W X) (rt : RR X tb g.nt g.nt) (rl : RR X lb g.nl g.nl) (htb : W.heap.size ≤ tb) (hlb : tb < lb) (q : Bq X B) (hB : W.heap.size ≤ B) :
    MC g W X.heap.size G nb lsb B tb lb g.nt g.nl cn cm ∧ MS g W X.heap.size G B tb lb g.nt g.nl (((((X.setCell ⟨B, 0, none⟩ (.pointer (some ⟨G, 0, none⟩))).setCell ⟨B, 1, none⟩ (.func (.func 22) #[] #[])).setCell ⟨B, 2, none⟩ (.slice (some ⟨tb, 0, none⟩) g.nt g.nt)).setCell ⟨B, 3, none⟩ (.slice (some ⟨lb, 0, none⟩) g.nl g.nl)).setCell ⟨B, 4, none⟩ (.slice none 0 0)) (fun _ => -1) (fun _ => -1) [] (.slice none 0 0) := by
  have c0 := q.cel 0 _ rfl
  have n1 : B ≠ tb := fun e => by
    have := rt.at.1 0 h.pos.1
    rw [← e, c0] at this
    cases this
  have n2 : B ≠ lb := fun e => by
    have := rl.at.1 0 h.pos.2
    rw [← e, c0] at this
    cases this
  refine fin0 h be rt rl htb hlb hB n1 n2 (((((Kept.refl _ _).set (by simp)).set (by simp)).set (by simp)).set (by simp) |>.set (by simp)) ?_ q.lt (Nat.le_refl _) (by simp [World.setCell])
  exact ((((Bx.put q 0 _ (by simp [zM])).put 1 _ (by simp [zM])).put 2 _ (by simp [zM])).put 3 _ (by simp [zM])).put 4 _ (by simp [zM])

theorem fin2 {g : Gr} {W X : World} {G nb lsb cn cm tb lb : Nat} (h : MG g W G nb lsb cn cm) (be : Below W.heap.size W X) (rt : RR X tb g.nt g.nt) (rl : RR X lb g.nl g.nl) (htb : W.heap.size ≤ tb) (hlb : tb < lb) :
    MC g W (X.heap.size + 1) G nb lsb X.heap.size tb lb g.nt g.nl cn cm ∧ MS g W (X.heap.size + 1) G X.heap.size tb lb g.nt g.nl (X.alloc (.cells #[.pointer (some ⟨G, 0, none⟩), .func (.func 22) #[] #[], .slice (some ⟨tb, 0, none⟩) g.nt g.nt, .slice (some ⟨lb, 0, none⟩) g.nl g.nl, .slice none 0 0] 105)) (fun _ => -1) (fun _ => -1) [] (.slice none 0 0) :=
  fin0 h be rt rl htb hlb be.size (Nat.ne_of_gt rt.lt) (Nat.ne_of_gt rl.lt) (Kept.alloc _ _ _) (Bx.new X (fM G tb lb g.nt g.nl) 105) (Nat.lt_succ_self _) (Nat.le_succ _) (by simp)

theorem nodup_len : ∀ (L U : List Nat), L.Nodup → (∀ a ∈ L, a ∈ U) → L.length ≤ U.length
  | [], _, _, _ => Nat.zero_le _
  | a :: L, U, hn, hs => by
    have ha := hs a List.mem_cons_self
    have h2 := nodup_len L (U.erase a) (List.nodup_cons.1 hn).2 (fun b hb => by
      have hne : b ≠ a := fun e => (List.nodup_cons.1 hn).1 (e ▸ hb)
      exact (List.mem_erase_of_ne hne).2 (hs b (List.mem_cons_of_mem _ hb)))
    have h3 := List.length_erase_of_mem ha
    have h4 := List.length_pos_of_mem ha
    rw [List.length_cons]
    omega

theorem Gr.MI.len {g : Gr} {T L : Nat → Int} {st : List (Nat × Nat)} (h : g.MI T L st) : st.length ≤ g.nl := by
  have := nodup_len (st.map Prod.fst) (List.range g.nl) h.distinct (fun a ha => by
    obtain ⟨e, he, rfl⟩ := List.mem_map.1 ha
    exact List.mem_range.2 (h.op e he).1)
  simpa using this

/-- What is known between two lists. -/
def BI (g : Gr) (W : World) (lo G B tb lb : Nat) (i : Nat) (wr : World) : Prop :=
  ∃ T L sv, g.MI T L [] ∧ MS g W lo G B tb lb g.nt g.nl wr T L [] sv ∧ ((sv = .slice none 0 0) ∨ ∃ b cap, sv = .slice (some ⟨b, 0, none⟩) 0 cap) ∧ ∀ j, j < i → L j ≠ -1

/-- What is known while a list is measured. -/
def CI (g : Gr) (W : World) (lo G B tb lb : Nat) (i : Nat) (wr : World) (k : Nat) : Prop :=
  ∃ T L st sv, g.MI T L st ∧ MS g W lo G B tb lb g.nt g.nl wr T L st sv ∧ (sv = .slice none 0 0 ∧ st = [] ∨ ∃ b cap, sv = .slice (some ⟨b, 0, none⟩) st.length cap) ∧ (∀ j, j < i → L j ≠ -1) ∧ k = g.left L st

set_option maxHeartbeats 8000000 in
set_option maxRecDepth 100000 in
theorem i_measure {g : Gr} {W : World} {G nb lsb cn cm : Nat} (h : MG g W G nb lsb cn cm) :
    Calls Try.prog 21 #[.pointer (some ⟨G, 0, none⟩), .func (.func 22) #[] #[]] W fun e W' => ∃ lb, e = .returned (.slice (some ⟨lb, 0, none⟩) g.nl g.nl) ∧ W.heap.size ≤ lb ∧ (∀ l, l < g.nl → W'.cell? ⟨lb, l, none⟩ = some (.int .i64 (g.sL l))) ∧ Below W.heap.size W W' := by
  have HH := hide h
  have g8 := h.n8
  have g9 := h.n9
  have HS : Hid (∀ V, Below W.heap.size W V → V.cell? ⟨G, 8, none⟩ = some (.slice (some ⟨nb, 0, none⟩) g.nt cn) ∧ V.cell? ⟨G, 9, none⟩ = some (.slice (some ⟨lsb, 0, none⟩) g.nl cm)) := fun V hV => ⟨(hV.cell (block_lt_of_cell h.n8)).trans h.n8, (hV.cell (block_lt_of_cell h.n9)).trans h.n9⟩
  have HDR : Hid (Below W.heap.size W W.drew) := (Below.refl _ _).drew
  have k0 := HS.out W.drew HDR.out
  have HL : Hid ((1 ≤ g.nt ∧ g.nt ≤ 10000000) ∧ 1 ≤ g.nl ∧ g.nl ≤ 10000000) := ⟨⟨h.pos.1, h.ok.lim.2⟩, h.pos.2, h.ok.lim.1⟩
  clear h
  go_enter Try.func21, Try.ntmps21
  go_upto_region 1 with fail
  have HRF : Hid (Below W.heap.size W W) := Below.refl _ _
  go_cut [5] (fun t wx => ∃ B tb lb lo, t = .pointer (some ⟨B, 0, none⟩) ∧ MC g W lo G nb lsb B tb lb g.nt g.nl cn cm ∧ MS g W lo G B tb lb g.nt g.nl wx (fun _ => -1) (fun _ => -1) [] (.slice none 0 0))
  case first =>
   go_region_held3 (fun V => V.cell? ⟨G, 8, none⟩ = some (.slice (some ⟨nb, 0, none⟩) g.nt cn) ∧ V.cell? ⟨G, 9, none⟩ = some (.slice (some ⟨lsb, 0, none⟩) g.nl cm))
    (first | (refine HS.out _ ?_; ((repeat first | with_reducible exact be2.out | with_reducible exact be1.out | with_reducible exact HDR.out | with_reducible exact HRF.out | with_reducible refine be_alloc ?_ _ | with_reducible refine Below.drew ?_ | with_reducible refine Below.setCell ?_ ?_ _ | with_reducible exact Nat.le_refl _ | with_reducible exact Nat.le_succ _ | with_reducible exact Nat.le_succ_of_le (Nat.le_succ _) | with_reducible exact be1.out.size | with_reducible exact Nat.le_succ_of_le be1.out.size | with_reducible exact be2.out.size); done)) | fail)
    (first
      | (go_at_call_of 42 (Value.int .i64 (g.nt : Int)); refine (i_repeat g.nt _ HL.out.1.1 HL.out.1.2 _ (show Cl _ _ _ from ?_)).mono ?_; (focus ((repeat first | with_reducible exact c10.out | with_reducible exact c11.out | with_reducible exact c12.out | with_reducible exact Cl.new _ _ _ | with_reducible exact Cl.new1 _ _ _ _ | with_reducible exact Cl.new2 _ _ _ _ _ | with_reducible refine Cl.drew ?_ | with_reducible refine Cl.alloc ?_ _); done)); rintro e w1 ⟨tb, rfl, b1, r1', bx1⟩; have r1 := hide r1'; refine (fun (be1 : Hid (Below W.heap.size W w1)) => ?_) (be_call ?_ bx1); rotate_left; (focus ((repeat first | with_reducible exact be2.out | with_reducible exact be1.out | with_reducible exact HDR.out | with_reducible exact HRF.out | with_reducible refine be_alloc ?_ _ | with_reducible refine Below.drew ?_ | with_reducible refine Below.setCell ?_ ?_ _ | with_reducible exact Nat.le_refl _ | with_reducible exact Nat.le_succ _ | with_reducible exact Nat.le_succ_of_le (Nat.le_succ _) | with_reducible exact be1.out.size | with_reducible exact Nat.le_succ_of_le be1.out.size | with_reducible exact be2.out.size); done)); have tb1 : Hid (W.heap.size ≤ tb) := Nat.le_trans (dle _ _ (by simp <;> omega)) b1; (first | (refine (fun (c10 : Hid (Cl w1 (W.heap.size) (.int .i64 (-1)))) => ?_) (Cl.call ?_ bx1); rotate_left; focus ((repeat first | with_reducible exact c10.out | with_reducible exact c11.out | with_reducible exact c12.out | with_reducible exact Cl.new _ _ _ | with_reducible exact Cl.new1 _ _ _ _ | with_reducible exact Cl.new2 _ _ _ _ _ | with_reducible refine Cl.drew ?_ | with_reducible refine Cl.alloc ?_ _); done)) | skip); (first | (refine (fun (q10 : Hid (Bq w1 (W.heap.size))) => ?_) (Bq.call ?_ bx1); rotate_left; focus ((repeat first | with_reducible exact q10.out | with_reducible exact q11.out | with_reducible exact q12.out | with_reducible exact Bq.new _ | with_reducible exact Bq.new1 _ _ | with_reducible exact Bq.new2 _ _ _ | with_reducible refine Bq.drew ?_ | with_reducible refine Bq.alloc ?_ _); done)) | skip); (first | (refine (fun (c11 : Hid (Cl w1 (W.heap.size + 1) (.int .i64 (-1)))) => ?_) (Cl.call ?_ bx1); rotate_left; focus ((repeat first | with_reducible exact c10.out | with_reducible exact c11.out | with_reducible exact c12.out | with_reducible exact Cl.new _ _ _ | with_reducible exact Cl.new1 _ _ _ _ | with_reducible exact Cl.new2 _ _ _ _ _ | with_reducible refine Cl.drew ?_ | with_reducible refine Cl.alloc ?_ _); done)) | skip); (first | (refine (fun (q11 : Hid (Bq w1 (W.heap.size + 1))) => ?_) (Bq.call ?_ bx1); rotate_left; focus ((repeat first | with_reducible exact q10.out | with_reducible exact q11.out | with_reducible exact q12.out | with_reducible exact Bq.new _ | with_reducible exact Bq.new1 _ _ | with_reducible exact Bq.new2 _ _ _ | with_reducible refine Bq.drew ?_ | with_reducible refine Bq.alloc ?_ _); done)) | skip); (first | (refine (fun (c12 : Hid (Cl w1 (W.heap.size + 1 + 1) (.int .i64 (-1)))) => ?_) (Cl.call ?_ bx1); rotate_left; focus ((repeat first | with_reducible exact c10.out | with_reducible exact c11.out | with_reducible exact c12.out | with_reducible exact Cl.new _ _ _ | with_reducible exact Cl.new1 _ _ _ _ | with_reducible exact Cl.new2 _ _ _ _ _ | with_reducible refine Cl.drew ?_ | with_reducible refine Cl.alloc ?_ _); done)) | skip); (first | (refine (fun (q12 : Hid (Bq w1 (W.heap.size + 1 + 1))) => ?_) (Bq.call ?_ bx1); rotate_left; focus ((repeat first | with_reducible exact q10.out | with_reducible exact q11.out | with_reducible exact q12.out | with_reducible exact Bq.new _ | with_reducible exact Bq.new1 _ _ | with_reducible exact Bq.new2 _ _ _ | with_reducible refine Bq.drew ?_ | with_reducible refine Bq.alloc ?_ _); done)) | skip); clear r1' b1 bx1)
      | (go_at_call_of 42 (Value.int .i64 (g.nl : Int)); refine (i_repeat g.nl _ HL.out.2.1 HL.out.2.2 _ (show Cl _ _ _ from ?_)).mono ?_; (focus ((repeat first | with_reducible exact c10.out | with_reducible exact c11.out | with_reducible exact c12.out | with_reducible exact Cl.new _ _ _ | with_reducible exact Cl.new1 _ _ _ _ | with_reducible exact Cl.new2 _ _ _ _ _ | with_reducible refine Cl.drew ?_ | with_reducible refine Cl.alloc ?_ _); done)); rintro e w2 ⟨lb, rfl, b2, r2', bx2⟩; have r2 := hide r2'; refine (fun (be2 : Hid (Below W.heap.size W w2)) => ?_) (be_call ?_ bx2); rotate_left; (focus ((repeat first | with_reducible exact be2.out | with_reducible exact be1.out | with_reducible exact HDR.out | with_reducible exact HRF.out | with_reducible refine be_alloc ?_ _ | with_reducible refine Below.drew ?_ | with_reducible refine Below.setCell ?_ ?_ _ | with_reducible exact Nat.le_refl _ | with_reducible exact Nat.le_succ _ | with_reducible exact Nat.le_succ_of_le (Nat.le_succ _) | with_reducible exact be1.out.size | with_reducible exact Nat.le_succ_of_le be1.out.size | with_reducible exact be2.out.size); done)); refine (fun (r3 : Hid (RR w2 tb g.nt g.nt)) => ?_) (RR.call ?_ bx2); rotate_left; (focus ((repeat first | with_reducible exact r1.out | with_reducible refine RR.drew ?_ | with_reducible refine RR.alloc ?_ _); done)); have lb1 : Hid (w1.heap.size ≤ lb) := Nat.le_trans (dle _ _ (by simp <;> omega)) b2; (first | (refine (fun (q2 : Hid (Bq w2 (W.heap.size))) => ?_) (Bq.call ?_ bx2); rotate_left; (focus ((repeat first | with_reducible exact q10.out | with_reducible exact q11.out | with_reducible exact q12.out | with_reducible exact Bq.new _ | with_reducible exact Bq.new1 _ _ | with_reducible exact Bq.new2 _ _ _ | with_reducible refine Bq.drew ?_ | with_reducible refine Bq.alloc ?_ _); done)); have q3 := q2.out.cells; have q4 := q2.out.drew.cells) | skip); (first | (refine (fun (q2 : Hid (Bq w2 (W.heap.size + 1))) => ?_) (Bq.call ?_ bx2); rotate_left; (focus ((repeat first | with_reducible exact q10.out | with_reducible exact q11.out | with_reducible exact q12.out | with_reducible exact Bq.new _ | with_reducible exact Bq.new1 _ _ | with_reducible exact Bq.new2 _ _ _ | with_reducible refine Bq.drew ?_ | with_reducible refine Bq.alloc ?_ _); done)); have q3 := q2.out.cells; have q4 := q2.out.drew.cells) | skip); (first | (refine (fun (q2 : Hid (Bq w2 (W.heap.size + 1 + 1))) => ?_) (Bq.call ?_ bx2); rotate_left; (focus ((repeat first | with_reducible exact q10.out | with_reducible exact q11.out | with_reducible exact q12.out | with_reducible exact Bq.new _ | with_reducible exact Bq.new1 _ _ | with_reducible exact Bq.new2 _ _ _ | with_reducible refine Bq.drew ?_ | with_reducible refine Bq.alloc ?_ _); done)); have q3 := q2.out.cells; have q4 := q2.out.drew.cells) | skip); (first | (refine (fun (q2 : Hid (Bq w2 (w1.heap.size))) => ?_) (Bq.call ?_ bx2); rotate_left; (focus ((repeat first | with_reducible exact q10.out | with_reducible exact q11.out | with_reducible exact q12.out | with_reducible exact Bq.new _ | with_reducible exact Bq.new1 _ _ | with_reducible exact Bq.new2 _ _ _ | with_reducible refine Bq.drew ?_ | with_reducible refine Bq.alloc ?_ _); done)); have q3 := q2.out.cells; have q4 := q2.out.drew.cells) | skip); (first | (refine (fun (q2 : Hid (Bq w2 (w1.heap.size + 1))) => ?_) (Bq.call ?_ bx2); rotate_left; (focus ((repeat first | with_reducible exact q10.out | with_reducible exact q11.out | with_reducible exact q12.out | with_reducible exact Bq.new _ | with_reducible exact Bq.new1 _ _ | with_reducible exact Bq.new2 _ _ _ | with_reducible refine Bq.drew ?_ | with_reducible refine Bq.alloc ?_ _); done)); have q3 := q2.out.cells; have q4 := q2.out.drew.cells) | skip); clear r2' b2 bx2))
   all_goals
     have hlt : tb < lb := Nat.lt_of_lt_of_le r1.out.lt lb1.out
     go_wp2_with fail
     go_meet
     case rel =>
       first
         | (have z := fin2 HH.out be2.out r3.out r2.out tb1.out hlt; exact ⟨_, _, _, _, rfl, z.1, z.2⟩)
         | (have z := fin2 HH.out be2.out r3.out r2.out tb1.out hlt; exact ⟨_, _, _, _, rfl, z.1, z.2.kept z.1 (Kept.drew _ _)⟩)
         | (have z := fin1 HH.out be2.out r3.out r2.out tb1.out hlt q2.out (by (first | exact Nat.le_refl _ | exact Nat.le_succ _ | exact Nat.le_succ_of_le (Nat.le_succ _) | exact be1.out.size | exact Nat.le_succ_of_le be1.out.size)); exact ⟨_, _, _, _, rfl, z.1, z.2⟩)
         | (have z := fin1 HH.out be2.out r3.out r2.out tb1.out hlt q2.out (by (first | exact Nat.le_refl _ | exact Nat.le_succ _ | exact Nat.le_succ_of_le (Nat.le_succ _) | exact be1.out.size | exact Nat.le_succ_of_le be1.out.size)); exact ⟨_, _, _, _, rfl, z.1, z.2.kept z.1 (Kept.drew _ _)⟩)
  case rest =>
  obtain ⟨B, tb, lb, lo, rfl, hMC, hMS⟩ := hcut
  rename World => v1
  have HC := hide hMC
  have HB0 : Hid (BI g W lo G B tb lb 0 v1) := ⟨_, _, _, ⟨fun _ _ => .inl rfl, fun _ _ => .inl rfl, fun e he => (by cases he), trivial⟩, hMS, .inl rfl, fun j hj => by omega⟩
  have c3 := hMS.bx.cel 3 _ rfl
  have hnl : g.nl ≤ 10000000 := HL.out.2.2
  clear hMC hMS k0 g8 g9 HRF HDR
  go_wp2_with fail
  go_loopw [28] (fun s28 wr => ∃ i : Nat, s28 = .int .i64 (i : Int) ∧ i ≤ g.nl ∧ BI g W lo G B tb lb i wr) (fun s28 wr => g.nl - (intOf s28).toNat)
  case atStart => exact ⟨0, rfl, Nat.zero_le _, HB0.out⟩
  case round =>
    clear c3 HB0
    obtain ⟨i, rfl, hi, T, L, sv, hI, hM, hsv, hL⟩ := hrel
    have HI := hide hI
    have HM := hide hM
    have HSV := hide hsv
    have HLL := hide hL
    clear hI hM hsv hL
    by_cases hlt : (i : Int) < (g.nl : Int)
    · have hlt' : i < g.nl := by omega
      have l1 := HM.out.lr i hlt'
      by_cases hLi : L i = -1
      · have hb : (L i == -1) = true := by simp [hLi]
        have HBG : Hid (Calls Try.prog 43 #[.pointer (some ⟨B, 0, none⟩), .int .i64 i] wr fun e V' => e = .returned (.tuple #[]) ∧ ∃ k, CI g W lo G B tb lb (i + 1) V' k) := (i_begin HC.out HM.out i hlt' (Nat.zero_le _)).mono (by
          rintro e V' ⟨rfl, b, cap, h3⟩
          refine ⟨rfl, _, T, _, _, _, HI.out.first hlt' _, h3, .inr ⟨b, cap, rfl⟩, fun j hj => ?_, rfl⟩
          by_cases e : j = i
          · rw [e, upd_same]; omega
          · rw [upd_ne _ _ e]; exact HLL.out j (by omega))
        clear hLi
        go_wp2_with fail
        refine HBG.out.mono ?_
        rintro e w3 ⟨rfl, hk⟩
        have HK := hide hk
        clear hk l1 HI HM HSV HLL hb HBG
        go_wp2_with fail
        go_loopw [37] (fun _ wr => ∃ k, CI g W lo G B tb lb (i + 1) wr k) (fun _ wr => least (CI g W lo G B tb lb (i + 1) wr))
        case atStart => exact HK.out
        case round =>
          clear HK
          have hci := least_spec hrel
          clear hrel
          obtain ⟨T, L, st, sv, hI, hM, hsv, hL, hkk⟩ := hci
          have HI := hide hI
          have HM := hide hM
          have HLL := hide hL
          have HKK := hide hkk
          have c4 := hM.bx.cel 4 _ rfl
          have hlen := hI.len
          clear hI hM hL hkk
          cases st with
          | nil =>
            have HBI : Hid (BI g W lo G B tb lb (i + 1) wr) := by
              refine ⟨T, L, sv, HI.out, HM.out, ?_, HLL.out⟩
              rcases hsv with ⟨h, -⟩ | ⟨b, cap, h⟩
              · exact .inl h
              · exact .inr ⟨b, cap, h⟩
            have hz : ∃ a cap, sv = .slice a 0 cap := by
              rcases hsv with ⟨h, -⟩ | ⟨b, cap, h⟩
              · exact ⟨_, _, h⟩
              · exact ⟨_, _, h⟩
            clear hsv
            obtain ⟨a, cap, rfl⟩ := hz
            go_wp2_with fail
            go_roundw
            case rel => exact ⟨i + 1, by go_num, by omega, HBI.out⟩
            case measure => simp only [intOf]; omega
          | cons x st =>
            obtain ⟨l, n⟩ := x
            obtain ⟨b, cap, rfl⟩ : ∃ b cap, sv = .slice (some ⟨b, 0, none⟩) (st.length + 1) cap := by
              rcases hsv with ⟨-, h⟩ | ⟨b, cap, h⟩
              · cases h
              · exact ⟨b, cap, h⟩
            clear hsv
            obtain ⟨m, hm⟩ : ∃ m, st.length = m := ⟨_, rfl⟩
            rw [List.length_cons, hm] at hlen
            rw [hm] at HM c4
            have HGO := hide (i_goOn HC.out hm HM.out HI.out (by omega) HH.out.lim)
            clear hm
            go_wp2_with fail
            refine HGO.out.mono ?_
            rintro e w5 ⟨rfl, T', L', st', sv', g1, g2, g3, g4, g5⟩
            have HC5 : Hid (CI g W lo G B tb lb (i + 1) w5 (g.left L' st')) := ⟨T', L', st', sv', g1, g2, g4, fun j hj => g5 j (HLL.out j hj), rfl⟩
            have HG3 := hide g3
            clear g1 g2 g3 g4 g5 HGO
            go_wp2_with fail
            go_roundw
            case rel => exact ⟨_, HC5.out⟩
            case measure =>
              rw [HKK.out]
              exact Nat.lt_of_le_of_lt (least_le HC5.out) HG3.out
      · have hb : (L i == -1) = false := by simp [hLi]
        have HK : Hid (∃ k, CI g W lo G B tb lb (i + 1) wr k) := ⟨_, T, L, [], sv, HI.out, HM.out, (by
          rcases HSV.out with h | ⟨b, cap, h⟩
          · exact .inl ⟨h, rfl⟩
          · exact .inr ⟨b, cap, h⟩), fun j hj => (by
            by_cases e : j = i
            · rw [e]; exact hLi
            · exact HLL.out j (by omega)), rfl⟩
        clear HI HM HSV HLL hLi
        go_wp2_with fail
        clear hb l1
        go_loopw [37] (fun _ wr => ∃ k, CI g W lo G B tb lb (i + 1) wr k) (fun _ wr => least (CI g W lo G B tb lb (i + 1) wr))
        case atStart => exact HK.out
        case round =>
          clear HK
          have hci := least_spec hrel
          clear hrel
          obtain ⟨T, L, st, sv, hI, hM, hsv, hL, hkk⟩ := hci
          have HI := hide hI
          have HM := hide hM
          have HLL := hide hL
          have HKK := hide hkk
          have c4 := hM.bx.cel 4 _ rfl
          have hlen := hI.len
          clear hI hM hL hkk
          cases st with
          | nil =>
            have HBI : Hid (BI g W lo G B tb lb (i + 1) wr) := by
              refine ⟨T, L, sv, HI.out, HM.out, ?_, HLL.out⟩
              rcases hsv with ⟨h, -⟩ | ⟨b, cap, h⟩
              · exact .inl h
              · exact .inr ⟨b, cap, h⟩
            have hz : ∃ a cap, sv = .slice a 0 cap := by
              rcases hsv with ⟨h, -⟩ | ⟨b, cap, h⟩
              · exact ⟨_, _, h⟩
              · exact ⟨_, _, h⟩
            clear hsv
            obtain ⟨a, cap, rfl⟩ := hz
            go_wp2_with fail
            go_roundw
            case rel => exact ⟨i + 1, by go_num, by omega, HBI.out⟩
            case measure => simp only [intOf]; omega
          | cons x st =>
            obtain ⟨l, n⟩ := x
            obtain ⟨b, cap, rfl⟩ : ∃ b cap, sv = .slice (some ⟨b, 0, none⟩) (st.length + 1) cap := by
              rcases hsv with ⟨-, h⟩ | ⟨b, cap, h⟩
              · cases h
              · exact ⟨b, cap, h⟩
            clear hsv
            obtain ⟨m, hm⟩ : ∃ m, st.length = m := ⟨_, rfl⟩
            rw [List.length_cons, hm] at hlen
            rw [hm] at HM c4
            have HGO := hide (i_goOn HC.out hm HM.out HI.out (by omega) HH.out.lim)
            clear hm
            go_wp2_with fail
            refine HGO.out.mono ?_
            rintro e w5 ⟨rfl, T', L', st', sv', g1, g2, g3, g4, g5⟩
            have HC5 : Hid (CI g W lo G B tb lb (i + 1) w5 (g.left L' st')) := ⟨T', L', st', sv', g1, g2, g4, fun j hj => g5 j (HLL.out j hj), rfl⟩
            have HG3 := hide g3
            clear g1 g2 g3 g4 g5 HGO
            go_wp2_with fail
            go_roundw
            case rel => exact ⟨_, HC5.out⟩
            case measure =>
              rw [HKK.out]
              exact Nat.lt_of_le_of_lt (least_le HC5.out) HG3.out
    · have hie : i = g.nl := by omega
      have c3 := HM.out.bx.cel 3 _ rfl
      have HF : Hid (∀ l, l < g.nl → wr.cell? ⟨lb, l, none⟩ = some (.int .i64 (g.sL l))) := fun l hl => by
        have h1 := HM.out.lr l hl
        rcases HI.out.lOk l hl with h2 | h2 | h2
        · exact absurd h2 (HLL.out l (by omega))
        · rw [h2] at h1; exact h1
        · cases h2
      have HBE := hide HM.out.be
      have HLB : Hid (W.heap.size ≤ lb) := HC.out.hl.1
      go_wp2_with fail
      go_ret
      exact ⟨lb, rfl, HLB.out, HF.out, HBE.out⟩
end Go.Proofs.Ytfgmgbkiebeeoaa
