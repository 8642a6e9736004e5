import Derived.Test.YtjfoagmenehapaaGreatDoorQ10
import Derived.Maps.Own
namespace Go.Proofs.YtjfoagmenehapaaGreatDoor
open Go.RowKit Go.Joins

/-- The program's scanner at block b: text, kept texts, where the last token ended, line, where the line began, tokens. -/
structure Sc (w : World) (b : Nat) (s : ByteArray) (mb : Nat) (nx ln ls : Int) (v : Value) : Prop where
  c0 : w.cell? ⟨b, 0, none⟩ = some (.string s)
  c1 : w.cell? ⟨b, 1, none⟩ = some (.map (some mb))
  c2 : w.cell? ⟨b, 2, none⟩ = some (.int .i64 nx)
  c3 : w.cell? ⟨b, 3, none⟩ = some (.int .i64 ln)
  c4 : w.cell? ⟨b, 4, none⟩ = some (.int .i64 ls)
  c5 : w.cell? ⟨b, 5, none⟩ = some v
  fr : ∀ o, w.frozen? ⟨b, o, none⟩ = false
  lt : b < w.heap.size

theorem Sc.kept {w w' b s mb nx ln ls v} (h : Sc w b s mb nx ln ls v) (hb : w'.heap[b]? = w.heap[b]?) (hz : w.heap.size ≤ w'.heap.size) : Sc w' b s mb nx ln ls v := by
  have hc : ∀ o, w'.cell? ⟨b, o, none⟩ = w.cell? ⟨b, o, none⟩ := fun o => World.cell?_of_block hb
  have hf : ∀ o, w'.frozen? ⟨b, o, none⟩ = w.frozen? ⟨b, o, none⟩ := fun o => World.frozen?_of_block hb
  exact ⟨(hc 0).trans h.c0, (hc 1).trans h.c1, (hc 2).trans h.c2, (hc 3).trans h.c3, (hc 4).trans h.c4, (hc 5).trans h.c5, fun o => (hf o).trans (h.fr o), Nat.lt_of_lt_of_le h.lt hz⟩
theorem Sc.below {w w' b s mb nx ln ls v} {B : Nat} (h : Sc w b s mb nx ln ls v) (hb : Below B w w') (hB : b < B) : Sc w' b s mb nx ln ls v := h.kept (hb.block b hB) hb.size
theorem Sc.drewN {w b s mb nx ln ls v} (h : Sc w b s mb nx ln ls v) (q : Nat) : Sc (w.drewN q) b s mb nx ln ls v := ⟨h.c0, h.c1, h.c2, h.c3, h.c4, h.c5, h.fr, h.lt⟩
theorem Sc.set2 {w b s mb nx ln ls v} (h : Sc w b s mb nx ln ls v) (z : Int) : Sc (w.setCell ⟨b, 2, none⟩ (.int .i64 z)) b s mb z ln ls v := by
  obtain ⟨c0, c1, c2, c3, c4, c5, fr, lt⟩ := h
  exact ⟨by simp [go_sem, c0], by simp [go_sem, c1], by simp [go_sem, c2], by simp [go_sem, c3], by simp [go_sem, c4], by simp [go_sem, c5], fun o => by simpa [go_sem] using fr o, by simpa using lt⟩
theorem Sc.set3 {w b s mb nx ln ls v} (h : Sc w b s mb nx ln ls v) (z : Int) : Sc (w.setCell ⟨b, 3, none⟩ (.int .i64 z)) b s mb nx z ls v := by
  obtain ⟨c0, c1, c2, c3, c4, c5, fr, lt⟩ := h
  exact ⟨by simp [go_sem, c0], by simp [go_sem, c1], by simp [go_sem, c2], by simp [go_sem, c3], by simp [go_sem, c4], by simp [go_sem, c5], fun o => by simpa [go_sem] using fr o, by simpa using lt⟩
theorem Sc.set4 {w b s mb nx ln ls v} (h : Sc w b s mb nx ln ls v) (z : Int) : Sc (w.setCell ⟨b, 4, none⟩ (.int .i64 z)) b s mb nx ln z v := by
  obtain ⟨c0, c1, c2, c3, c4, c5, fr, lt⟩ := h
  exact ⟨by simp [go_sem, c0], by simp [go_sem, c1], by simp [go_sem, c2], by simp [go_sem, c3], by simp [go_sem, c4], by simp [go_sem, c5], fun o => by simpa [go_sem] using fr o, by simpa using lt⟩
theorem Sc.set5 {w b s mb nx ln ls v} (h : Sc w b s mb nx ln ls v) (u : Value) : Sc (w.setCell ⟨b, 5, none⟩ u) b s mb nx ln ls u := by
  obtain ⟨c0, c1, c2, c3, c4, c5, fr, lt⟩ := h
  exact ⟨by simp [go_sem, c0], by simp [go_sem, c1], by simp [go_sem, c2], by simp [go_sem, c3], by simp [go_sem, c4], by simp [go_sem, c5], fun o => by simpa [go_sem] using fr o, by simpa using lt⟩

/-- Below b all is as it was, and so are all other blocks but b that are no rows of tokens. -/
def KB (b : Nat) (w w' : World) : Prop := Below b w w' ∧ Lib.OthersKept 65 (some b) w w'
theorem KB.refl (b : Nat) (w : World) : KB b w w := ⟨Below.refl _ _, Lib.OthersKept.refl _ _ _⟩
theorem KB.trans {b : Nat} {u v w : World} (h : KB b u v) (k : KB b v w) : KB b u w := ⟨h.1.trans k.1, h.2.trans k.2⟩
theorem KB.drew {b : Nat} {u w : World} (h : KB b u w) : KB b u w.drew := ⟨h.1.drew, h.2.drew⟩
theorem KB.only {b : Nat} {u v w : World} (h : KB b u v) (k : Only b v w) : KB b u w :=
  ⟨h.1.trans (k.below (Nat.le_refl b)), fun i o hi hb ho => (k.block i (fun e => hb (by rw [e]))).trans (h.2 i o hi hb ho)⟩
theorem KB.of {b : Nat} {u w : World} (hb : b ≤ u.heap.size) (h : Below u.heap.size u w) : KB b u w := ⟨h.mono hb, others_below h⟩
theorem tok_kind {B : Nat} {W : World} {ao : Option Addr} {cap n : Nat} {T : List To} (h : TR B W ao cap n T) : ∀ g, (Value.slice ao n cap).ownBlock = some g → ∃ c fz, W.heap[g]? = some (.cells c 65 fz) := by
  intro g hg
  rcases h.2.2 with ⟨e, h0⟩ | ⟨g', cap', cur, e, _, hb, _⟩
  · rw [e] at hg; simp [Value.ownBlock] at hg
  · rw [e] at hg
    simp [Value.ownBlock] at hg
    subst hg
    exact ⟨cur, _, hb⟩
theorem kb_grown {b : Nat} {w W6 : World} {ao : Option Addr} {cap n : Nat} {T : List To} {o : Obj} (hT : TR (b + 1) w ao cap n T) (lt : b < w.heap.size) (hg : (w.alloc o).drew.grownBy W6 (Value.slice ao n cap).ownBlock) (v : Value) : KB b w (W6.setCell ⟨b, 5, none⟩ v) := by
  have h1 : KB b w W6 := ⟨((Below.refl b w).alloc (Nat.le_of_lt lt) o).drew.grown hg (by simp; omega) (fun j hj => by have := (World.ownsRow.lt hT.2 j hj).1; omega),
    ((Lib.OthersKept.refl 65 (some b) w).alloc o).drew.grown hg (tok_kind (((hT.alloc o).drewN 1) : TR (b + 1) (w.alloc o).drew ao cap n T))⟩
  exact h1.only (Only.setCell W6 ⟨b, 5, none⟩ v)

theorem iCol (b a : Nat) (s : ByteArray) (mb : Nat) (nx ln ls cl : Int) (v : Value) (w : World) (h : Sc w b s mb nx ln ls v) (hc : (a : Int) - ls + 1 = cl) (h0 : 1 ≤ cl) (h1 : cl ≤ 1048577) :
    Calls Tryz.prog 99 #[.pointer (some ⟨b, 0, none⟩), .int .i64 a] w fun e w' => e = .returned (.int .i64 cl) ∧ w' = w := by
  obtain ⟨c0, c1, c2, c3, c4, c5, fr, lt⟩ := h
  have hc1 : (a : Int) - ls = cl - 1 := by omega
  clear hc
  go_enter Tryz.func99, Tryz.ntmps99
  go_wp2_with fail
  go_ret
  exact ⟨congrArg (fun z => Ending.returned (.int .i64 z)) (by go_num), rfl⟩

set_option maxHeartbeats 1000000 in
set_option maxRecDepth 100000 in
theorem iMeaning (b : Nat) (s : ByteArray) (a m : Nat) (mb : Nat) (nx ln ls cl : Nat) (ao : Option Addr) (cap n : Nat) (T : List To) (k : Nat) (t : ByteArray) (w : World) (h : Sc w b s mb nx ln ls (.slice ao n cap)) (hT : TR (b + 1) w ao cap n T)
    (hl : T.length ≤ 1048576) (hc : (a : Int) - ls + 1 = cl) (h0 : 1 ≤ cl) (h1 : cl ≤ 1048577) :
    Calls Tryz.prog 146 #[.pointer (some ⟨b, 0, none⟩), .int .i64 k, .string t, .int .i64 a, .int .i64 m] w fun e w' => e = .returned (.tuple #[]) ∧
      (∃ ao' cap', Sc w' b s mb m ln ls (.slice ao' (n + 1) cap') ∧ TR (b + 1) w' ao' cap' (n + 1) (T ++ [⟨k, t, ln, cl⟩])) ∧ KB b w w' := by
  obtain ⟨c0, c1, c2, c3, c4, c5, fr, lt⟩ := id h
  have lt' : b + 1 ≤ w.heap.size := lt
  have hcs : w.drew.cell? ⟨b, 3, none⟩ = some (.int .i64 (ln : Int)) ∧ w.drew.cell? ⟨b, 4, none⟩ = some (.int .i64 (ls : Int)) := ⟨c3, c4⟩
  have hka : ∀ o, (w.alloc o).drew.cell? ⟨b, 3, none⟩ = some (.int .i64 (ln : Int)) ∧ (w.alloc o).drew.cell? ⟨b, 4, none⟩ = some (.int .i64 (ls : Int)) := fun o =>
    ⟨((below_alloc1 w o).cell (p := ⟨b, 3, none⟩) lt).trans c3, ((below_alloc1 w o).cell (p := ⟨b, 4, none⟩) lt).trans c4⟩
  have c5a : ∀ o, (w.alloc o).drew.cell? ⟨b, 5, none⟩ = some (.slice ao n cap) := fun o => ((below_alloc1 w o).cell (p := ⟨b, 5, none⟩) lt).trans c5
  go_enter Tryz.func146, Tryz.ntmps146
  go_upto_region 0 with fail
  go_cut [] (fun wx => ∃ ao' cap', Sc wx b s mb nx ln ls (.slice ao' (n + 1) cap') ∧ TR (b + 1) wx ao' cap' (n + 1) (T ++ [⟨k, t, ln, cl⟩]) ∧ KB b w wx)
  case first =>
    refine wp_region_held_drew (S := (fun w' => w'.cell? ⟨b, 3, none⟩ = some (.int .i64 (ln : Int)) ∧ w'.cell? ⟨b, 4, none⟩ = some (.int .i64 (ls : Int)))) (by kernel_rfl) hcs (fun hHeld => ?_)
    refine' wpAnyH_take (i := 0) (oi := { dst := some 10, op := Op.move (Operand.tmp 0), type := 147, pos := "l2_lex.go:170", after := #[], guard := none }) (v := _) rfl (by kernel_rfl) (by kernel_rfl) (by kernel_rfl) (fun _ _ _ h => h) (Or.inl ⟨by rfl, ?y1⟩) (by assumption) ?r1
    case y1 => (intro w hSw; (try dsimp only at hSw); go_simp; (try with_reducible rfl))
    try simp only [Act.put, List.setIfInBounds_toArray, List.set_cons_succ]
    refine' wpAnyH_take (i := 1) (oi := { dst := some 11, op := Op.move (Operand.tmp 0), type := 147, pos := "l2_lex.go:170", after := #[], guard := none }) (v := _) rfl (by kernel_rfl) (by kernel_rfl) (by kernel_rfl) (fun _ _ _ h => h) (Or.inl ⟨by rfl, ?y2⟩) (by assumption) ?r2
    case y2 => (intro w hSw; (try dsimp only at hSw); go_simp; (try with_reducible rfl))
    try simp only [Act.put, List.setIfInBounds_toArray, List.set_cons_succ]
    refine' wpAnyH_take (i := 2) (oi := { dst := some 12, op := Op.nilCheck (Operand.tmp 11), type := 0, pos := "l2_lex.go:170", after := #[{ on := 1, ground := Ground.data }], guard := none }) (v := _) rfl (by kernel_rfl) (by kernel_rfl) (by kernel_rfl) (fun _ _ _ h => h) (Or.inl ⟨by rfl, ?y3⟩) (by assumption) ?r3
    case y3 => (intro w hSw; (try dsimp only at hSw); go_simp; (try with_reducible rfl))
    try simp only [Act.put, List.setIfInBounds_toArray, List.set_cons_succ]
    refine' wpAnyH_take (i := 3) (oi := { dst := some 13, op := Op.fieldAddr 133 (Operand.tmp 12) 5, type := 0, pos := "l2_lex.go:170", after := #[{ on := 2, ground := Ground.data }], guard := none }) (v := _) rfl (by kernel_rfl) (by kernel_rfl) (by kernel_rfl) (fun _ _ _ h => h) (Or.inl ⟨by rfl, ?y4⟩) (by assumption) ?r4
    case y4 => (intro w hSw; (try dsimp only at hSw); go_simp; (try with_reducible rfl))
    try simp only [Act.put, List.setIfInBounds_toArray, List.set_cons_succ]
    refine' wpAnyH_take (i := 5) (oi := { dst := some 15, op := Op.move (Operand.tmp 1), type := 2, pos := "l2_lex.go:170", after := #[], guard := none }) (v := _) rfl (by kernel_rfl) (by kernel_rfl) (by kernel_rfl) (fun _ _ _ h => h) (Or.inl ⟨by rfl, ?y5⟩) (by assumption) ?r5
    case y5 => (intro w hSw; (try dsimp only at hSw); go_simp; (try with_reducible rfl))
    try simp only [Act.put, List.setIfInBounds_toArray, List.set_cons_succ]
    refine' wpAnyH_take (i := 6) (oi := { dst := some 16, op := Op.move (Operand.tmp 2), type := 9, pos := "l2_lex.go:170", after := #[], guard := none }) (v := _) rfl (by kernel_rfl) (by kernel_rfl) (by kernel_rfl) (fun _ _ _ h => h) (Or.inl ⟨by rfl, ?y6⟩) (by assumption) ?r6
    case y6 => (intro w hSw; (try dsimp only at hSw); go_simp; (try with_reducible rfl))
    try simp only [Act.put, List.setIfInBounds_toArray, List.set_cons_succ]
    refine' wpAnyH_take (i := 7) (oi := { dst := some 17, op := Op.move (Operand.tmp 0), type := 147, pos := "l2_lex.go:170", after := #[], guard := none }) (v := _) rfl (by kernel_rfl) (by kernel_rfl) (by kernel_rfl) (fun _ _ _ h => h) (Or.inl ⟨by rfl, ?y7⟩) (by assumption) ?r7
    case y7 => (intro w hSw; (try dsimp only at hSw); go_simp; (try with_reducible rfl))
    try simp only [Act.put, List.setIfInBounds_toArray, List.set_cons_succ]
    refine' wpAnyH_take (i := 8) (oi := { dst := some 18, op := Op.nilCheck (Operand.tmp 17), type := 0, pos := "l2_lex.go:170", after := #[{ on := 7, ground := Ground.data }], guard := none }) (v := _) rfl (by kernel_rfl) (by kernel_rfl) (by kernel_rfl) (fun _ _ _ h => h) (Or.inl ⟨by rfl, ?y8⟩) (by assumption) ?r8
    case y8 => (intro w hSw; (try dsimp only at hSw); go_simp; (try with_reducible rfl))
    try simp only [Act.put, List.setIfInBounds_toArray, List.set_cons_succ]
    refine' wpAnyH_take (i := 9) (oi := { dst := some 19, op := Op.fieldAddr 133 (Operand.tmp 18) 3, type := 0, pos := "l2_lex.go:170", after := #[{ on := 8, ground := Ground.data }], guard := none }) (v := _) rfl (by kernel_rfl) (by kernel_rfl) (by kernel_rfl) (fun _ _ _ h => h) (Or.inl ⟨by rfl, ?y9⟩) (by assumption) ?r9
    case y9 => (intro w hSw; (try dsimp only at hSw); go_simp; (try with_reducible rfl))
    try simp only [Act.put, List.setIfInBounds_toArray, List.set_cons_succ]
    refine' wpAnyH_take (i := 10) (oi := { dst := some 20, op := Op.load 2 (Operand.tmp 19), type := 2, pos := "l2_lex.go:170", after := #[{ on := 9, ground := Ground.data }], guard := none }) (v := _) rfl (by kernel_rfl) (by kernel_rfl) (by kernel_rfl) (fun _ _ _ h => h) (Or.inl ⟨by rfl, ?y10⟩) (by assumption) ?r10
    case y10 => (intro w hSw; (try dsimp only at hSw); go_simp; (try with_reducible rfl))
    try simp only [Act.put, List.setIfInBounds_toArray, List.set_cons_succ]
    refine' wpAnyH_take (i := 11) (oi := { dst := some 21, op := Op.move (Operand.tmp 0), type := 147, pos := "l2_lex.go:170", after := #[], guard := none }) (v := _) rfl (by kernel_rfl) (by kernel_rfl) (by kernel_rfl) (fun _ _ _ h => h) (Or.inl ⟨by rfl, ?y11⟩) (by assumption) ?r11
    case y11 => (intro w hSw; (try dsimp only at hSw); go_simp; (try with_reducible rfl))
    try simp only [Act.put, List.setIfInBounds_toArray, List.set_cons_succ]
    refine' wpAnyH_take (i := 12) (oi := { dst := some 22, op := Op.move (Operand.tmp 3), type := 3, pos := "l2_lex.go:170", after := #[], guard := none }) (v := _) rfl (by kernel_rfl) (by kernel_rfl) (by kernel_rfl) (fun _ _ _ h => h) (Or.inl ⟨by rfl, ?y12⟩) (by assumption) ?r12
    case y12 => (intro w hSw; (try dsimp only at hSw); go_simp; (try with_reducible rfl))
    try simp only [Act.put, List.setIfInBounds_toArray, List.set_cons_succ]
    refine wpAnyH_ready (rs := [4, 13]) (by kernel_rfl) (by simp) ?_
    refine AllReadyH.cons (o := { dst := some 14, op := Op.load 109 (Operand.tmp 13), type := 109, pos := "l2_lex.go:170", after := #[{ on := 3, ground := Ground.data }], guard := none }) rfl (fun K hK => ?_) ?_
    · go_simp
      refine hK.out _ _ hcs (fun hHeld => ?_)
      clear hK K
      try simp only [Act.put, List.setIfInBounds_toArray, List.set_cons_succ]
      refine wpAnyH_ready (rs := [13]) (by kernel_rfl) (by simp) ?_
      refine AllReadyH.cons (o := { dst := some 23, op := Op.call { callee := Callee.value (Operand.func 99), args := #[Operand.tmp 21, Operand.tmp 22], argTypes := #[147, 3] }, type := 2, pos := "l2_lex.go:170", after := #[{ on := 11, ground := Ground.data }, { on := 12, ground := Ground.data }], guard := none }) rfl (fun K hK => ?_) AllReadyH.nil
      go_simp
      refine (iCol b a s mb nx ln ls cl _ w.drew (h.drewN 1) hc (by omega) (by omega)).mono ?_
      rintro e w1 ⟨rfl, hw1⟩
      obtain rfl : w.drew = w1 := hw1.symm
      go_wp2_with fail
      refine hK.out _ _ hcs (fun hHeld => ?_)
      clear hK K
      try simp only [Act.put, List.setIfInBounds_toArray, List.set_cons_succ]
      refine' wpAnyH_take (i := 14) (oi := { dst := some 24, op := Op.build 65 #[(0, Operand.tmp 15), (1, Operand.tmp 16), (2, Operand.tmp 20), (3, Operand.tmp 23)], type := 65, pos := "l2_lex.go:170", after := #[{ on := 5, ground := Ground.data }, { on := 6, ground := Ground.data }, { on := 10, ground := Ground.data }, { on := 13, ground := Ground.data }], guard := none }) (v := _) rfl (by kernel_rfl) (by kernel_rfl) (by kernel_rfl) (fun _ _ _ h => h) (Or.inl ⟨by rfl, ?y13⟩) (by assumption) ?r13
      case y13 => (intro w hSw; (try dsimp only at hSw); go_simp; (try with_reducible rfl))
      try simp only [Act.put, List.setIfInBounds_toArray, List.set_cons_succ]
      refine wpAnyH_ready (rs := [15]) (by kernel_rfl) (by simp) ?_
      refine AllReadyH.cons (o := { dst := some 25, op := Op.buildSlice 109 1 #[(0, Operand.tmp 24)], type := 109, pos := "l2_lex.go:170", after := #[{ on := 14, ground := Ground.data }], guard := none }) rfl (fun K hK => ?_) AllReadyH.nil
      go_simp
      refine hK.out _ _ (hka _) (fun hHeld => ?_)
      clear hK K
      try simp only [Act.put, List.setIfInBounds_toArray, List.set_cons_succ]
      refine wpAnyH_ready (rs := [16]) (by kernel_rfl) (by simp) ?_
      refine AllReadyH.cons (o := { dst := some 26, op := Op.call { callee := Callee.builtin Builtin.append, args := #[Operand.tmp 14, Operand.tmp 25], argTypes := #[109, 109] }, type := 109, pos := "l2_lex.go:170", after := #[{ on := 4, ground := Ground.data }, { on := 15, ground := Ground.data }, { on := 13, ground := Ground.chain }], guard := none }) rfl (fun K hK => ?_) AllReadyH.nil
      refine tok_draw rfl _ _ rfl (b + 1) _ ao cap n T ⟨k, t, ln, cl⟩ ⟨w.heap.size, 0, none⟩ rfl rfl (by simp; omega) ((hT.alloc _).drewN 1) (new_cells w _ _ 65 rfl) hl ?_
      intro ao6 cp6 W6 hT6 hg6
      have hb6 : W6.heap[b]? = w.heap[b]? := (hg6.block b (by simp; omega) (fun e => by have := (World.ownsRow.lt hT.2 b e.symm).1; omega)).trans (Below.heap_alloc w _ b lt)
      have h6 := h.kept hb6 (by have := hg6.size; simp at this; omega)
      have f5 := h6.fr 5
      have g5 := h6.c5
      refine hK.out _ _ ⟨h6.c3, h6.c4⟩ (fun hHeld => ?_)
      clear hK K
      try simp only [Act.put, List.setIfInBounds_toArray, List.set_cons_succ]
      refine' wpAnyH_take (i := 17) (oi := { dst := some 27, op := Op.nilCheck (Operand.tmp 10), type := 0, pos := "l2_lex.go:170", after := #[{ on := 0, ground := Ground.data }, { on := 0, ground := Ground.phase }, { on := 1, ground := Ground.phase }, { on := 2, ground := Ground.phase }, { on := 3, ground := Ground.phase }, { on := 4, ground := Ground.phase }, { on := 5, ground := Ground.phase }, { on := 6, ground := Ground.phase }, { on := 7, ground := Ground.phase }, { on := 8, ground := Ground.phase }, { on := 9, ground := Ground.phase }, { on := 10, ground := Ground.phase }, { on := 11, ground := Ground.phase }, { on := 12, ground := Ground.phase }, { on := 13, ground := Ground.phase }, { on := 14, ground := Ground.phase }, { on := 15, ground := Ground.phase }, { on := 16, ground := Ground.phase }], guard := none }) (v := _) rfl (by kernel_rfl) (by kernel_rfl) (by kernel_rfl) (fun _ _ _ h => h) (Or.inl ⟨by rfl, ?y14⟩) (by assumption) ?r14
      case y14 => (intro w hSw; (try dsimp only at hSw); go_simp; (try with_reducible rfl))
      try simp only [Act.put, List.setIfInBounds_toArray, List.set_cons_succ]
      refine' wpAnyH_take (i := 18) (oi := { dst := some 28, op := Op.fieldAddr 133 (Operand.tmp 27) 5, type := 0, pos := "l2_lex.go:170", after := #[{ on := 17, ground := Ground.data }, { on := 0, ground := Ground.phase }, { on := 1, ground := Ground.phase }, { on := 2, ground := Ground.phase }, { on := 3, ground := Ground.phase }, { on := 4, ground := Ground.phase }, { on := 5, ground := Ground.phase }, { on := 6, ground := Ground.phase }, { on := 7, ground := Ground.phase }, { on := 8, ground := Ground.phase }, { on := 9, ground := Ground.phase }, { on := 10, ground := Ground.phase }, { on := 11, ground := Ground.phase }, { on := 12, ground := Ground.phase }, { on := 13, ground := Ground.phase }, { on := 14, ground := Ground.phase }, { on := 15, ground := Ground.phase }, { on := 16, ground := Ground.phase }], guard := none }) (v := _) rfl (by kernel_rfl) (by kernel_rfl) (by kernel_rfl) (fun _ _ _ h => h) (Or.inl ⟨by rfl, ?y15⟩) (by assumption) ?r15
      case y15 => (intro w hSw; (try dsimp only at hSw); go_simp; (try with_reducible rfl))
      try simp only [Act.put, List.setIfInBounds_toArray, List.set_cons_succ]
      refine wpAnyH_ready (rs := [19]) (by kernel_rfl) (by simp) ?_
      refine AllReadyH.cons (o := { dst := none, op := Op.store 109 (Operand.tmp 28) (Operand.tmp 26), type := 0, pos := "l2_lex.go:170", after := #[{ on := 18, ground := Ground.data }, { on := 16, ground := Ground.data }, { on := 16, ground := Ground.chain }, { on := 0, ground := Ground.phase }, { on := 1, ground := Ground.phase }, { on := 2, ground := Ground.phase }, { on := 3, ground := Ground.phase }, { on := 4, ground := Ground.phase }, { on := 5, ground := Ground.phase }, { on := 6, ground := Ground.phase }, { on := 7, ground := Ground.phase }, { on := 8, ground := Ground.phase }, { on := 9, ground := Ground.phase }, { on := 10, ground := Ground.phase }, { on := 11, ground := Ground.phase }, { on := 12, ground := Ground.phase }, { on := 13, ground := Ground.phase }, { on := 14, ground := Ground.phase }, { on := 15, ground := Ground.phase }, { on := 16, ground := Ground.phase }], guard := none }) rfl (fun K hK => ?_) AllReadyH.nil
      go_simp
      refine hK.out _ _ ⟨(h6.set5 _).c3, (h6.set5 _).c4⟩ (fun hHeld => ?_)
      clear hK K
      try simp only [Act.put]
      refine wpAnyH_done (by kernel_rfl) ?_ _
      go_wp2_with fail
      go_meet
      case rel =>
        exact ⟨ao6, cp6, h6.set5 _, hT6.only (Only.setCell W6 ⟨b, 5, none⟩ _) (Nat.lt_succ_self b), kb_grown hT lt hg6 _⟩
    · refine AllReadyH.cons (o := { dst := some 23, op := Op.call { callee := Callee.value (Operand.func 99), args := #[Operand.tmp 21, Operand.tmp 22], argTypes := #[147, 3] }, type := 2, pos := "l2_lex.go:170", after := #[{ on := 11, ground := Ground.data }, { on := 12, ground := Ground.data }], guard := none }) rfl (fun K hK => ?_) AllReadyH.nil
      go_simp
      refine (iCol b a s mb nx ln ls cl _ w.drew (h.drewN 1) hc (by omega) (by omega)).mono ?_
      rintro e w1 ⟨rfl, hw1⟩
      obtain rfl : w.drew = w1 := hw1.symm
      go_wp2_with fail
      refine hK.out _ _ hcs (fun hHeld => ?_)
      clear hK K
      try simp only [Act.put, List.setIfInBounds_toArray, List.set_cons_succ]
      refine' wpAnyH_take (i := 14) (oi := { dst := some 24, op := Op.build 65 #[(0, Operand.tmp 15), (1, Operand.tmp 16), (2, Operand.tmp 20), (3, Operand.tmp 23)], type := 65, pos := "l2_lex.go:170", after := #[{ on := 5, ground := Ground.data }, { on := 6, ground := Ground.data }, { on := 10, ground := Ground.data }, { on := 13, ground := Ground.data }], guard := none }) (v := _) rfl (by kernel_rfl) (by kernel_rfl) (by kernel_rfl) (fun _ _ _ h => h) (Or.inl ⟨by rfl, ?y16⟩) (by assumption) ?r16
      case y16 => (intro w hSw; (try dsimp only at hSw); go_simp; (try with_reducible rfl))
      try simp only [Act.put, List.setIfInBounds_toArray, List.set_cons_succ]
      refine wpAnyH_ready (rs := [4, 15]) (by kernel_rfl) (by simp) ?_
      refine AllReadyH.cons (o := { dst := some 14, op := Op.load 109 (Operand.tmp 13), type := 109, pos := "l2_lex.go:170", after := #[{ on := 3, ground := Ground.data }], guard := none }) rfl (fun K hK => ?_) ?_
      · go_simp
        refine hK.out _ _ hcs (fun hHeld => ?_)
        clear hK K
        try simp only [Act.put, List.setIfInBounds_toArray, List.set_cons_succ]
        refine wpAnyH_ready (rs := [15]) (by kernel_rfl) (by simp) ?_
        refine AllReadyH.cons (o := { dst := some 25, op := Op.buildSlice 109 1 #[(0, Operand.tmp 24)], type := 109, pos := "l2_lex.go:170", after := #[{ on := 14, ground := Ground.data }], guard := none }) rfl (fun K hK => ?_) AllReadyH.nil
        go_simp
        refine hK.out _ _ (hka _) (fun hHeld => ?_)
        clear hK K
        try simp only [Act.put, List.setIfInBounds_toArray, List.set_cons_succ]
        refine wpAnyH_ready (rs := [16]) (by kernel_rfl) (by simp) ?_
        refine AllReadyH.cons (o := { dst := some 26, op := Op.call { callee := Callee.builtin Builtin.append, args := #[Operand.tmp 14, Operand.tmp 25], argTypes := #[109, 109] }, type := 109, pos := "l2_lex.go:170", after := #[{ on := 4, ground := Ground.data }, { on := 15, ground := Ground.data }, { on := 13, ground := Ground.chain }], guard := none }) rfl (fun K hK => ?_) AllReadyH.nil
        refine tok_draw rfl _ _ rfl (b + 1) _ ao cap n T ⟨k, t, ln, cl⟩ ⟨w.heap.size, 0, none⟩ rfl rfl (by simp; omega) ((hT.alloc _).drewN 1) (new_cells w _ _ 65 rfl) hl ?_
        intro ao6 cp6 W6 hT6 hg6
        have hb6 : W6.heap[b]? = w.heap[b]? := (hg6.block b (by simp; omega) (fun e => by have := (World.ownsRow.lt hT.2 b e.symm).1; omega)).trans (Below.heap_alloc w _ b lt)
        have h6 := h.kept hb6 (by have := hg6.size; simp at this; omega)
        have f5 := h6.fr 5
        have g5 := h6.c5
        refine hK.out _ _ ⟨h6.c3, h6.c4⟩ (fun hHeld => ?_)
        clear hK K
        try simp only [Act.put, List.setIfInBounds_toArray, List.set_cons_succ]
        refine' wpAnyH_take (i := 17) (oi := { dst := some 27, op := Op.nilCheck (Operand.tmp 10), type := 0, pos := "l2_lex.go:170", after := #[{ on := 0, ground := Ground.data }, { on := 0, ground := Ground.phase }, { on := 1, ground := Ground.phase }, { on := 2, ground := Ground.phase }, { on := 3, ground := Ground.phase }, { on := 4, ground := Ground.phase }, { on := 5, ground := Ground.phase }, { on := 6, ground := Ground.phase }, { on := 7, ground := Ground.phase }, { on := 8, ground := Ground.phase }, { on := 9, ground := Ground.phase }, { on := 10, ground := Ground.phase }, { on := 11, ground := Ground.phase }, { on := 12, ground := Ground.phase }, { on := 13, ground := Ground.phase }, { on := 14, ground := Ground.phase }, { on := 15, ground := Ground.phase }, { on := 16, ground := Ground.phase }], guard := none }) (v := _) rfl (by kernel_rfl) (by kernel_rfl) (by kernel_rfl) (fun _ _ _ h => h) (Or.inl ⟨by rfl, ?y17⟩) (by assumption) ?r17
        case y17 => (intro w hSw; (try dsimp only at hSw); go_simp; (try with_reducible rfl))
        try simp only [Act.put, List.setIfInBounds_toArray, List.set_cons_succ]
        refine' wpAnyH_take (i := 18) (oi := { dst := some 28, op := Op.fieldAddr 133 (Operand.tmp 27) 5, type := 0, pos := "l2_lex.go:170", after := #[{ on := 17, ground := Ground.data }, { on := 0, ground := Ground.phase }, { on := 1, ground := Ground.phase }, { on := 2, ground := Ground.phase }, { on := 3, ground := Ground.phase }, { on := 4, ground := Ground.phase }, { on := 5, ground := Ground.phase }, { on := 6, ground := Ground.phase }, { on := 7, ground := Ground.phase }, { on := 8, ground := Ground.phase }, { on := 9, ground := Ground.phase }, { on := 10, ground := Ground.phase }, { on := 11, ground := Ground.phase }, { on := 12, ground := Ground.phase }, { on := 13, ground := Ground.phase }, { on := 14, ground := Ground.phase }, { on := 15, ground := Ground.phase }, { on := 16, ground := Ground.phase }], guard := none }) (v := _) rfl (by kernel_rfl) (by kernel_rfl) (by kernel_rfl) (fun _ _ _ h => h) (Or.inl ⟨by rfl, ?y18⟩) (by assumption) ?r18
        case y18 => (intro w hSw; (try dsimp only at hSw); go_simp; (try with_reducible rfl))
        try simp only [Act.put, List.setIfInBounds_toArray, List.set_cons_succ]
        refine wpAnyH_ready (rs := [19]) (by kernel_rfl) (by simp) ?_
        refine AllReadyH.cons (o := { dst := none, op := Op.store 109 (Operand.tmp 28) (Operand.tmp 26), type := 0, pos := "l2_lex.go:170", after := #[{ on := 18, ground := Ground.data }, { on := 16, ground := Ground.data }, { on := 16, ground := Ground.chain }, { on := 0, ground := Ground.phase }, { on := 1, ground := Ground.phase }, { on := 2, ground := Ground.phase }, { on := 3, ground := Ground.phase }, { on := 4, ground := Ground.phase }, { on := 5, ground := Ground.phase }, { on := 6, ground := Ground.phase }, { on := 7, ground := Ground.phase }, { on := 8, ground := Ground.phase }, { on := 9, ground := Ground.phase }, { on := 10, ground := Ground.phase }, { on := 11, ground := Ground.phase }, { on := 12, ground := Ground.phase }, { on := 13, ground := Ground.phase }, { on := 14, ground := Ground.phase }, { on := 15, ground := Ground.phase }, { on := 16, ground := Ground.phase }], guard := none }) rfl (fun K hK => ?_) AllReadyH.nil
        go_simp
        refine hK.out _ _ ⟨(h6.set5 _).c3, (h6.set5 _).c4⟩ (fun hHeld => ?_)
        clear hK K
        try simp only [Act.put]
        refine wpAnyH_done (by kernel_rfl) ?_ _
        go_wp2_with fail
        go_meet
        case rel =>
          exact ⟨ao6, cp6, h6.set5 _, hT6.only (Only.setCell W6 ⟨b, 5, none⟩ _) (Nat.lt_succ_self b), kb_grown hT lt hg6 _⟩
      · refine AllReadyH.cons (o := { dst := some 25, op := Op.buildSlice 109 1 #[(0, Operand.tmp 24)], type := 109, pos := "l2_lex.go:170", after := #[{ on := 14, ground := Ground.data }], guard := none }) rfl (fun K hK => ?_) AllReadyH.nil
        go_simp
        refine hK.out _ _ (hka _) (fun hHeld => ?_)
        clear hK K
        try simp only [Act.put, List.setIfInBounds_toArray, List.set_cons_succ]
        refine wpAnyH_ready (rs := [4]) (by kernel_rfl) (by simp) ?_
        refine AllReadyH.cons (o := { dst := some 14, op := Op.load 109 (Operand.tmp 13), type := 109, pos := "l2_lex.go:170", after := #[{ on := 3, ground := Ground.data }], guard := none }) rfl (fun K hK => ?_) AllReadyH.nil
        go_simp
        refine hK.out _ _ (hka _) (fun hHeld => ?_)
        clear hK K
        try simp only [Act.put, List.setIfInBounds_toArray, List.set_cons_succ]
        refine wpAnyH_ready (rs := [16]) (by kernel_rfl) (by simp) ?_
        refine AllReadyH.cons (o := { dst := some 26, op := Op.call { callee := Callee.builtin Builtin.append, args := #[Operand.tmp 14, Operand.tmp 25], argTypes := #[109, 109] }, type := 109, pos := "l2_lex.go:170", after := #[{ on := 4, ground := Ground.data }, { on := 15, ground := Ground.data }, { on := 13, ground := Ground.chain }], guard := none }) rfl (fun K hK => ?_) AllReadyH.nil
        refine tok_draw rfl _ _ rfl (b + 1) _ ao cap n T ⟨k, t, ln, cl⟩ ⟨w.heap.size, 0, none⟩ rfl rfl (by simp; omega) ((hT.alloc _).drewN 1) (new_cells w _ _ 65 rfl) hl ?_
        intro ao6 cp6 W6 hT6 hg6
        have hb6 : W6.heap[b]? = w.heap[b]? := (hg6.block b (by simp; omega) (fun e => by have := (World.ownsRow.lt hT.2 b e.symm).1; omega)).trans (Below.heap_alloc w _ b lt)
        have h6 := h.kept hb6 (by have := hg6.size; simp at this; omega)
        have f5 := h6.fr 5
        have g5 := h6.c5
        refine hK.out _ _ ⟨h6.c3, h6.c4⟩ (fun hHeld => ?_)
        clear hK K
        try simp only [Act.put, List.setIfInBounds_toArray, List.set_cons_succ]
        refine' wpAnyH_take (i := 17) (oi := { dst := some 27, op := Op.nilCheck (Operand.tmp 10), type := 0, pos := "l2_lex.go:170", after := #[{ on := 0, ground := Ground.data }, { on := 0, ground := Ground.phase }, { on := 1, ground := Ground.phase }, { on := 2, ground := Ground.phase }, { on := 3, ground := Ground.phase }, { on := 4, ground := Ground.phase }, { on := 5, ground := Ground.phase }, { on := 6, ground := Ground.phase }, { on := 7, ground := Ground.phase }, { on := 8, ground := Ground.phase }, { on := 9, ground := Ground.phase }, { on := 10, ground := Ground.phase }, { on := 11, ground := Ground.phase }, { on := 12, ground := Ground.phase }, { on := 13, ground := Ground.phase }, { on := 14, ground := Ground.phase }, { on := 15, ground := Ground.phase }, { on := 16, ground := Ground.phase }], guard := none }) (v := _) rfl (by kernel_rfl) (by kernel_rfl) (by kernel_rfl) (fun _ _ _ h => h) (Or.inl ⟨by rfl, ?y19⟩) (by assumption) ?r19
        case y19 => (intro w hSw; (try dsimp only at hSw); go_simp; (try with_reducible rfl))
        try simp only [Act.put, List.setIfInBounds_toArray, List.set_cons_succ]
        refine' wpAnyH_take (i := 18) (oi := { dst := some 28, op := Op.fieldAddr 133 (Operand.tmp 27) 5, type := 0, pos := "l2_lex.go:170", after := #[{ on := 17, ground := Ground.data }, { on := 0, ground := Ground.phase }, { on := 1, ground := Ground.phase }, { on := 2, ground := Ground.phase }, { on := 3, ground := Ground.phase }, { on := 4, ground := Ground.phase }, { on := 5, ground := Ground.phase }, { on := 6, ground := Ground.phase }, { on := 7, ground := Ground.phase }, { on := 8, ground := Ground.phase }, { on := 9, ground := Ground.phase }, { on := 10, ground := Ground.phase }, { on := 11, ground := Ground.phase }, { on := 12, ground := Ground.phase }, { on := 13, ground := Ground.phase }, { on := 14, ground := Ground.phase }, { on := 15, ground := Ground.phase }, { on := 16, ground := Ground.phase }], guard := none }) (v := _) rfl (by kernel_rfl) (by kernel_rfl) (by kernel_rfl) (fun _ _ _ h => h) (Or.inl ⟨by rfl, ?y20⟩) (by assumption) ?r20
        case y20 => (intro w hSw; (try dsimp only at hSw); go_simp; (try with_reducible rfl))
        try simp only [Act.put, List.setIfInBounds_toArray, List.set_cons_succ]
        refine wpAnyH_ready (rs := [19]) (by kernel_rfl) (by simp) ?_
        refine AllReadyH.cons (o := { dst := none, op := Op.store 109 (Operand.tmp 28) (Operand.tmp 26), type := 0, pos := "l2_lex.go:170", after := #[{ on := 18, ground := Ground.data }, { on := 16, ground := Ground.data }, { on := 16, ground := Ground.chain }, { on := 0, ground := Ground.phase }, { on := 1, ground := Ground.phase }, { on := 2, ground := Ground.phase }, { on := 3, ground := Ground.phase }, { on := 4, ground := Ground.phase }, { on := 5, ground := Ground.phase }, { on := 6, ground := Ground.phase }, { on := 7, ground := Ground.phase }, { on := 8, ground := Ground.phase }, { on := 9, ground := Ground.phase }, { on := 10, ground := Ground.phase }, { on := 11, ground := Ground.phase }, { on := 12, ground := Ground.phase }, { on := 13, ground := Ground.phase }, { on := 14, ground := Ground.phase }, { on := 15, ground := Ground.phase }, { on := 16, ground := Ground.phase }], guard := none }) rfl (fun K hK => ?_) AllReadyH.nil
        go_simp
        refine hK.out _ _ ⟨(h6.set5 _).c3, (h6.set5 _).c4⟩ (fun hHeld => ?_)
        clear hK K
        try simp only [Act.put]
        refine wpAnyH_done (by kernel_rfl) ?_ _
        go_wp2_with fail
        go_meet
        case rel =>
          exact ⟨ao6, cp6, h6.set5 _, hT6.only (Only.setCell W6 ⟨b, 5, none⟩ _) (Nat.lt_succ_self b), kb_grown hT lt hg6 _⟩
  case rest =>
    obtain ⟨ao', cap', g1, hT1, b1⟩ := hcut
    obtain ⟨d0, d1, d2, d3, d4, d5, dfr, dlt⟩ := id g1
    have f2 := dfr 2
    go_wp2_with fail
    go_end0
    exact ⟨rfl, ⟨ao', cap', g1.set2 _, hT1.only (Only.setCell _ ⟨b, 2, none⟩ _) (Nat.lt_succ_self b)⟩, b1.only (Only.setCell _ ⟨b, 2, none⟩ _)⟩

end Go.Proofs.YtjfoagmenehapaaGreatDoor

namespace Go.Proofs.YtjfoagmenehapaaGreatDoor
open Go.RowKit Go.Joins

/-- The kind of a kept text, else 0. -/
def kk (t : ByteArray) : Nat := if word t = true then 8 else if mark t = true then 9 else 0

/-- The kept texts lie in block mb. -/
def KM (w : World) (mb : Nat) : Prop := ∃ o, w.heap[mb]? = some o ∧ (∀ c t fz, o ≠ .cells c t fz) ∧
  ∀ (w' : World) (t : ByteArray), w'.heap[mb]? = some o → t.size ≤ maxLen → (Instr.lookup 39 (.map (some mb)) (.string t) false).run Tryz.prog w' = .ok (.int .i64 (kk t)) w'

theorem KM.keep {w w' : World} {mb : Nat} (h : KM w mb) (hb : w'.heap[mb]? = w.heap[mb]?) : KM w' mb := by
  obtain ⟨o, h1, h2, h3⟩ := h
  exact ⟨o, hb.trans h1, h2, h3⟩
theorem KM.run {w : World} {mb : Nat} (h : KM w mb) (t : ByteArray) (ht : t.size ≤ maxLen) : (Instr.lookup 39 (.map (some mb)) (.string t) false).run Tryz.prog w = .ok (.int .i64 (kk t)) w := by
  obtain ⟨o, h1, h2, h3⟩ := h
  exact h3 w t h1 ht
theorem KM.below {w w' : World} {mb B : Nat} (h : KM w mb) (hb : Below B w w') (hm : mb < B) : KM w' mb := h.keep (hb.block mb hm)
theorem KM.drew {w : World} {mb : Nat} (h : KM w mb) : KM w.drew mb := h

/-- What adding a token leaves. -/
def Added (b : Nat) (s : ByteArray) (mb e ln ls n : Nat) (T : List To) (w w' : World) : Prop :=
  (∃ ao' cap', Sc w' b s mb e ln ls (.slice ao' n cap') ∧ TR (b + 1) w' ao' cap' n T) ∧ KB b w w'

set_option maxHeartbeats 1000000 in
set_option maxRecDepth 100000 in
theorem iAdd (b : Nat) (s : ByteArray) (a m : Nat) (mb : Nat) (nx ln ls cl : Nat) (ao : Option Addr) (cp n : Nat) (T : List To) (k : Nat) (w : World) (h : Sc w b s mb nx ln ls (.slice ao n cp)) (hT : TR (b + 1) w ao cp n T)
    (hl : T.length ≤ 1048576) (hs : s.size ≤ 1048576) (ha : a ≤ m) (hm : m ≤ s.size) (hc : (a : Int) - ls + 1 = cl) (h0 : 1 ≤ cl) (h1 : cl ≤ 1048577) :
    Calls Tryz.prog 120 #[.pointer (some ⟨b, 0, none⟩), .int .i64 k, .int .i64 a, .int .i64 m] w fun e w' => e = .returned (.tuple #[]) ∧ Added b s mb m ln ls (n + 1) (T ++ [⟨k, s.extract a m, ln, cl⟩]) w w' := by
  obtain ⟨c0, c1, c2, c3, c4, c5, fr, lt⟩ := id h
  have ha' : (a : Int) ≤ m := by omega
  have hm' : (m : Int) ≤ s.size := by omega
  have hcl : ∀ w1, Calls Tryz.prog 59 #[.string (s.extract a m)] w1 fun e w' => e = .returned (.string (s.extract a m)) ∧ Below w1.heap.size w1 w' := fun w1 => by
    have := Tryz.stringslite_Clone (s.extract a m) w1 (by rw [ByteArray.size_extract]; omega)
    go_enter Tryz.func59, Tryz.ntmps59
    go_wp2_with fail
    refine this.mono ?_
    rintro e w2 ⟨rfl, b2⟩
    go_wp2_with fail
    go_ret
    exact ⟨rfl, b2⟩
  have HCL := hide hcl
  clear hcl
  have HC := hide hc
  clear hc
  go_enter Tryz.func120, Tryz.ntmps120
  go_wp2_with fail
  refine (HCL.out w).mono ?_
  rintro e w1 ⟨rfl, b1⟩
  go_wp2_with fail
  refine (iMeaning b s a m mb nx ln ls cl ao cp n T k (s.extract a m) w1 (h.below b1 lt) (hT.below b1) hl HC.out h0 h1).mono ?_
  rintro e w2 ⟨rfl, h2, k2⟩
  go_wp2_with fail
  go_end0
  exact ⟨rfl, h2, (KB.of (Nat.le_of_lt lt) b1).trans k2⟩

set_option maxHeartbeats 1000000 in
set_option maxRecDepth 100000 in
theorem iUnless (b : Nat) (s : ByteArray) (a m : Nat) (mb : Nat) (nx ln ls cl : Nat) (ao : Option Addr) (cp n : Nat) (T : List To) (k : Nat) (w : World) (h : Sc w b s mb nx ln ls (.slice ao n cp)) (hT : TR (b + 1) w ao cp n T) (hK : KM w mb)
    (hl : T.length ≤ 1048576) (hs : s.size ≤ 1048576) (ha : a ≤ m) (hm : m ≤ s.size) (hc : (a : Int) - ls + 1 = cl) (h0 : 1 ≤ cl) (h1 : cl ≤ 1048577) :
    Calls Tryz.prog 144 #[.pointer (some ⟨b, 0, none⟩), .int .i64 k, .int .i64 a, .int .i64 m] w fun e w' => e = .returned (.tuple #[]) ∧ Added b s mb m ln ls (n + 1) (T ++ [⟨if kk (s.extract a m) = 0 then k else kk (s.extract a m), s.extract a m, ln, cl⟩]) w w' := by
  obtain ⟨c0, c1, c2, c3, c4, c5, fr, lt⟩ := id h
  have ha' : (a : Int) ≤ m := by omega
  have hm' : (m : Int) ≤ s.size := by omega
  have hlk := hK.drew.run (s.extract a m) (by rw [ByteArray.size_extract]; unfold maxLen; omega)
  have hd : Below w.heap.size w w.drew := (Below.refl _ w).drew
  have hA := fun k => hide (iAdd b s a m mb nx ln ls cl ao cp n T k w.drew (h.drewN 1) (hT.drewN 1) hl hs ha hm hc h0 h1)
  have HA := hide hA
  clear hA hc
  by_cases hz : kk (s.extract a m) = 0
  · rw [hz] at hlk
    rw [if_pos hz]
    clear hz
    go_enter Tryz.func144, Tryz.ntmps144
    go_wp2_with fail
    go_region
    all_goals
      go_wp2_with fail
      refine (HA.out k).out.mono ?_
      rintro e w2 ⟨rfl, h2, k2⟩
      go_wp2_with fail
      go_end0
      exact ⟨rfl, h2, (KB.of (Nat.le_of_lt lt) hd).trans k2⟩
  · rw [if_neg hz]
    generalize kk (s.extract a m) = q at *
    have hq : ((q : Int) == 0) = false := by simp; omega
    clear hz
    go_enter Tryz.func144, Tryz.ntmps144
    go_wp2_with fail
    go_region
    all_goals
      go_wp2_with fail
      refine (HA.out q).out.mono ?_
      rintro e w2 ⟨rfl, h2, k2⟩
      go_wp2_with fail
      go_end0
      exact ⟨rfl, h2, (KB.of (Nat.le_of_lt lt) hd).trans k2⟩

end Go.Proofs.YtjfoagmenehapaaGreatDoor

