import Derived.Test.YtjdncofdjabkiaaDoorQ03
namespace Go.Proofs.YtjdncofdjabkiaaDoor
open Go.RowKit Go.Joins

set_option maxHeartbeats 1000000 in
set_option maxRecDepth 100000 in
theorem mPut (b : Nat) (s : ByteArray) (a m : Nat) (x4 x5 x6 : Value) (ao : Option Addr) (cap n : Nat) (T : List To) (k : Nat) (t : ByteArray) (w : World) (h : Lx w b s a (pl s a) (pc s a) x4 x5 x6 (.slice ao n cap)) (hT : TR (b + 1) w ao cap n T)
    (hl : T.length ≤ 1048576) (hs : s.size ≤ 1048576) (ha : a + m ≤ s.size) :
    Calls Tryd.prog 45 #[.pointer (some ⟨b, 0, none⟩), .int .i64 k, .string t, .int .i64 m] w fun e w' => e = .returned (.tuple #[]) ∧
      (∃ ao' cap', Lx w' b s (a + m) (pl s (a + m)) (pc s (a + m)) x4 x5 x6 (.slice ao' (n + 1) cap') ∧ TR (b + 1) w' ao' cap' (n + 1) (T ++ [⟨k, t, pl s a, pc s a⟩])) ∧ Below b w w' := by
  obtain ⟨c0, c1, c2, c3, c4, c5, c6, c7, fr, lt⟩ := id h
  have lt' : b + 1 ≤ w.heap.size := lt
  have hka : ∀ o, (w.alloc o).drew.cell? ⟨b, 2, none⟩ = some (.int .i64 (pl s a)) ∧ (w.alloc o).drew.cell? ⟨b, 3, none⟩ = some (.int .i64 (pc s a)) := fun o =>
    ⟨((below_alloc1 w o).cell (p := ⟨b, 2, none⟩) lt).trans c2, ((below_alloc1 w o).cell (p := ⟨b, 3, none⟩) lt).trans c3⟩
  have c7a : ∀ o, (w.alloc o).drew.cell? ⟨b, 7, none⟩ = some (.slice ao n cap) := fun o => ((below_alloc1 w o).cell (p := ⟨b, 7, none⟩) lt).trans c7
  go_enter Tryd.func45, Tryd.ntmps45
  go_upto_region 0 with fail
  go_cut [] (fun wx => ∃ ao' cap', Lx wx b s a (pl s a) (pc s a) x4 x5 x6 (.slice ao' (n + 1) cap') ∧ TR (b + 1) wx ao' cap' (n + 1) (T ++ [⟨k, t, pl s a, pc s a⟩]) ∧ Below b w wx)
  case first =>
    refine wp_region_held_drew (S := (fun w' => w'.cell? ⟨b, 2, none⟩ = some (.int .i64 (pl s a)) ∧ w'.cell? ⟨b, 3, none⟩ = some (.int .i64 (pc s a)))) (by kernel_rfl) ⟨c2, c3⟩ (fun hHeld => ?_)
    refine' wpAnyH_take (i := 0) (oi := { dst := some 8, op := Op.move (Operand.tmp 0), type := 43, pos := "l2_lex.go:143", after := #[], guard := none }) (v := _) rfl (by kernel_rfl) (by kernel_rfl) (by kernel_rfl) (fun _ _ _ h => h) (Or.inl ⟨by rfl, ?y1⟩) (by assumption) ?r1
    case y1 => (intro w hSw; (try dsimp only at hSw); go_simp; (try with_reducible rfl))
    try simp only [Act.put, List.setIfInBounds_toArray, List.set_cons_succ]
    refine' wpAnyH_take (i := 1) (oi := { dst := some 9, op := Op.move (Operand.tmp 0), type := 43, pos := "l2_lex.go:143", after := #[], guard := none }) (v := _) rfl (by kernel_rfl) (by kernel_rfl) (by kernel_rfl) (fun _ _ _ h => h) (Or.inl ⟨by rfl, ?y2⟩) (by assumption) ?r2
    case y2 => (intro w hSw; (try dsimp only at hSw); go_simp; (try with_reducible rfl))
    try simp only [Act.put, List.setIfInBounds_toArray, List.set_cons_succ]
    refine' wpAnyH_take (i := 2) (oi := { dst := some 10, op := Op.nilCheck (Operand.tmp 9), type := 0, pos := "l2_lex.go:143", after := #[{ on := 1, ground := Ground.data }], guard := none }) (v := _) rfl (by kernel_rfl) (by kernel_rfl) (by kernel_rfl) (fun _ _ _ h => h) (Or.inl ⟨by rfl, ?y3⟩) (by assumption) ?r3
    case y3 => (intro w hSw; (try dsimp only at hSw); go_simp; (try with_reducible rfl))
    try simp only [Act.put, List.setIfInBounds_toArray, List.set_cons_succ]
    refine' wpAnyH_take (i := 3) (oi := { dst := some 11, op := Op.fieldAddr 45 (Operand.tmp 10) 4, type := 0, pos := "l2_lex.go:143", after := #[{ on := 2, ground := Ground.data }], guard := none }) (v := _) rfl (by kernel_rfl) (by kernel_rfl) (by kernel_rfl) (fun _ _ _ h => h) (Or.inl ⟨by rfl, ?y4⟩) (by assumption) ?r4
    case y4 => (intro w hSw; (try dsimp only at hSw); go_simp; (try with_reducible rfl))
    try simp only [Act.put, List.setIfInBounds_toArray, List.set_cons_succ]
    refine' wpAnyH_take (i := 4) (oi := { dst := some 12, op := Op.fieldAddr 24 (Operand.tmp 11) 3, type := 0, pos := "l2_lex.go:143", after := #[{ on := 3, ground := Ground.data }], guard := none }) (v := _) rfl (by kernel_rfl) (by kernel_rfl) (by kernel_rfl) (fun _ _ _ h => h) (Or.inl ⟨by rfl, ?y5⟩) (by assumption) ?r5
    case y5 => (intro w hSw; (try dsimp only at hSw); go_simp; (try with_reducible rfl))
    try simp only [Act.put, List.setIfInBounds_toArray, List.set_cons_succ]
    refine' wpAnyH_take (i := 6) (oi := { dst := some 14, op := Op.move (Operand.tmp 1), type := 2, pos := "l2_lex.go:143", after := #[], guard := none }) (v := _) rfl (by kernel_rfl) (by kernel_rfl) (by kernel_rfl) (fun _ _ _ h => h) (Or.inl ⟨by rfl, ?y6⟩) (by assumption) ?r6
    case y6 => (intro w hSw; (try dsimp only at hSw); go_simp; (try with_reducible rfl))
    try simp only [Act.put, List.setIfInBounds_toArray, List.set_cons_succ]
    refine' wpAnyH_take (i := 7) (oi := { dst := some 15, op := Op.move (Operand.tmp 2), type := 9, pos := "l2_lex.go:143", after := #[], guard := none }) (v := _) rfl (by kernel_rfl) (by kernel_rfl) (by kernel_rfl) (fun _ _ _ h => h) (Or.inl ⟨by rfl, ?y7⟩) (by assumption) ?r7
    case y7 => (intro w hSw; (try dsimp only at hSw); go_simp; (try with_reducible rfl))
    try simp only [Act.put, List.setIfInBounds_toArray, List.set_cons_succ]
    refine' wpAnyH_take (i := 8) (oi := { dst := some 16, op := Op.move (Operand.tmp 0), type := 43, pos := "l2_lex.go:143", after := #[], guard := none }) (v := _) rfl (by kernel_rfl) (by kernel_rfl) (by kernel_rfl) (fun _ _ _ h => h) (Or.inl ⟨by rfl, ?y8⟩) (by assumption) ?r8
    case y8 => (intro w hSw; (try dsimp only at hSw); go_simp; (try with_reducible rfl))
    try simp only [Act.put, List.setIfInBounds_toArray, List.set_cons_succ]
    refine' wpAnyH_take (i := 9) (oi := { dst := some 17, op := Op.nilCheck (Operand.tmp 16), type := 0, pos := "l2_lex.go:143", after := #[{ on := 8, ground := Ground.data }], guard := none }) (v := _) rfl (by kernel_rfl) (by kernel_rfl) (by kernel_rfl) (fun _ _ _ h => h) (Or.inl ⟨by rfl, ?y9⟩) (by assumption) ?r9
    case y9 => (intro w hSw; (try dsimp only at hSw); go_simp; (try with_reducible rfl))
    try simp only [Act.put, List.setIfInBounds_toArray, List.set_cons_succ]
    refine' wpAnyH_take (i := 10) (oi := { dst := some 18, op := Op.fieldAddr 45 (Operand.tmp 17) 2, type := 0, pos := "l2_lex.go:143", after := #[{ on := 9, ground := Ground.data }], guard := none }) (v := _) rfl (by kernel_rfl) (by kernel_rfl) (by kernel_rfl) (fun _ _ _ h => h) (Or.inl ⟨by rfl, ?y10⟩) (by assumption) ?r10
    case y10 => (intro w hSw; (try dsimp only at hSw); go_simp; (try with_reducible rfl))
    try simp only [Act.put, List.setIfInBounds_toArray, List.set_cons_succ]
    refine' wpAnyH_take (i := 11) (oi := { dst := some 19, op := Op.load 2 (Operand.tmp 18), type := 2, pos := "l2_lex.go:143", after := #[{ on := 10, ground := Ground.data }], guard := none }) (v := _) rfl (by kernel_rfl) (by kernel_rfl) (by kernel_rfl) (fun _ _ _ h => h) (Or.inl ⟨by rfl, ?y11⟩) (by assumption) ?r11
    case y11 => (intro w hSw; (try dsimp only at hSw); go_simp; (try with_reducible rfl))
    try simp only [Act.put, List.setIfInBounds_toArray, List.set_cons_succ]
    refine' wpAnyH_take (i := 12) (oi := { dst := some 20, op := Op.move (Operand.tmp 0), type := 43, pos := "l2_lex.go:143", after := #[], guard := none }) (v := _) rfl (by kernel_rfl) (by kernel_rfl) (by kernel_rfl) (fun _ _ _ h => h) (Or.inl ⟨by rfl, ?y12⟩) (by assumption) ?r12
    case y12 => (intro w hSw; (try dsimp only at hSw); go_simp; (try with_reducible rfl))
    try simp only [Act.put, List.setIfInBounds_toArray, List.set_cons_succ]
    refine' wpAnyH_take (i := 13) (oi := { dst := some 21, op := Op.nilCheck (Operand.tmp 20), type := 0, pos := "l2_lex.go:143", after := #[{ on := 12, ground := Ground.data }], guard := none }) (v := _) rfl (by kernel_rfl) (by kernel_rfl) (by kernel_rfl) (fun _ _ _ h => h) (Or.inl ⟨by rfl, ?y13⟩) (by assumption) ?r13
    case y13 => (intro w hSw; (try dsimp only at hSw); go_simp; (try with_reducible rfl))
    try simp only [Act.put, List.setIfInBounds_toArray, List.set_cons_succ]
    refine' wpAnyH_take (i := 14) (oi := { dst := some 22, op := Op.fieldAddr 45 (Operand.tmp 21) 3, type := 0, pos := "l2_lex.go:143", after := #[{ on := 13, ground := Ground.data }], guard := none }) (v := _) rfl (by kernel_rfl) (by kernel_rfl) (by kernel_rfl) (fun _ _ _ h => h) (Or.inl ⟨by rfl, ?y14⟩) (by assumption) ?r14
    case y14 => (intro w hSw; (try dsimp only at hSw); go_simp; (try with_reducible rfl))
    try simp only [Act.put, List.setIfInBounds_toArray, List.set_cons_succ]
    refine' wpAnyH_take (i := 15) (oi := { dst := some 23, op := Op.load 2 (Operand.tmp 22), type := 2, pos := "l2_lex.go:143", after := #[{ on := 14, ground := Ground.data }], guard := none }) (v := _) rfl (by kernel_rfl) (by kernel_rfl) (by kernel_rfl) (fun _ _ _ h => h) (Or.inl ⟨by rfl, ?y15⟩) (by assumption) ?r15
    case y15 => (intro w hSw; (try dsimp only at hSw); go_simp; (try with_reducible rfl))
    try simp only [Act.put, List.setIfInBounds_toArray, List.set_cons_succ]
    refine' wpAnyH_take (i := 16) (oi := { dst := some 24, op := Op.build 33 #[(0, Operand.tmp 14), (1, Operand.tmp 15), (2, Operand.tmp 19), (3, Operand.tmp 23)], type := 33, pos := "l2_lex.go:143", after := #[{ on := 6, ground := Ground.data }, { on := 7, ground := Ground.data }, { on := 11, ground := Ground.data }, { on := 15, ground := Ground.data }], guard := none }) (v := _) rfl (by kernel_rfl) (by kernel_rfl) (by kernel_rfl) (fun _ _ _ h => h) (Or.inl ⟨by rfl, ?y16⟩) (by assumption) ?r16
    case y16 => (intro w hSw; (try dsimp only at hSw); go_simp; (try with_reducible rfl))
    try simp only [Act.put, List.setIfInBounds_toArray, List.set_cons_succ]
    refine wpAnyH_ready (rs := [5, 17]) (by kernel_rfl) (by simp) ?_
    refine AllReadyH.cons (o := { dst := some 13, op := Op.load 22 (Operand.tmp 12), type := 22, pos := "l2_lex.go:143", after := #[{ on := 4, ground := Ground.data }], guard := none }) rfl (fun K hK => ?_) ?_
    · go_simp
      refine hK.out _ _ hHeld (fun hHeld1 => ?_)
      clear hK K
      try simp only [Act.put, List.setIfInBounds_toArray, List.set_cons_succ]
      refine wpAnyH_ready (rs := [17]) (by kernel_rfl) (by simp) ?_
      refine AllReadyH.cons (o := { dst := some 25, op := Op.buildSlice 22 1 #[(0, Operand.tmp 24)], type := 22, pos := "l2_lex.go:143", after := #[{ on := 16, ground := Ground.data }], guard := none }) rfl (fun K hK => ?_) AllReadyH.nil
      go_simp
      refine hK.out _ _ (hka _) (fun hHeld2 => ?_)
      clear hK K
      try simp only [Act.put, List.setIfInBounds_toArray, List.set_cons_succ]
      refine wpAnyH_ready (rs := [18]) (by kernel_rfl) (by simp) ?_
      refine AllReadyH.cons (o := { dst := some 26, op := Op.call { callee := Callee.builtin Builtin.append, args := #[Operand.tmp 13, Operand.tmp 25], argTypes := #[22, 22] }, type := 22, pos := "l2_lex.go:143", after := #[{ on := 5, ground := Ground.data }, { on := 17, ground := Ground.data }], guard := none }) rfl (fun K hK => ?_) AllReadyH.nil
      refine tok_draw rfl _ _ rfl (b + 1) _ ao cap n T ⟨k, t, pl s a, pc s a⟩ ⟨w.heap.size, 0, none⟩ rfl rfl (by simp; omega) ((hT.alloc _).drewN 1) (new_cells w _ _ 33 rfl) hl ?_
      intro ao6 cp6 W6 hT6 hg6
      have hb6 : W6.heap[b]? = w.heap[b]? := (hg6.block b (by simp; omega) (fun e => by have := (World.ownsRow.lt hT.2 b e.symm).1; omega)).trans (Below.heap_alloc w _ b lt)
      have h6 := h.kept hb6 (by have := hg6.size; simp at this; omega)
      have f7 := h6.fr 7
      have g7 := h6.c7
      refine hK.out _ _ ⟨h6.c2, h6.c3⟩ (fun hHeld3 => ?_)
      clear hK K
      try simp only [Act.put, List.setIfInBounds_toArray, List.set_cons_succ]
      refine' wpAnyH_take (i := 19) (oi := { dst := some 27, op := Op.nilCheck (Operand.tmp 8), type := 0, pos := "l2_lex.go:143", after := #[{ on := 0, ground := Ground.data }, { on := 0, ground := Ground.phase }, { on := 1, ground := Ground.phase }, { on := 2, ground := Ground.phase }, { on := 3, ground := Ground.phase }, { on := 4, ground := Ground.phase }, { on := 5, ground := Ground.phase }, { on := 6, ground := Ground.phase }, { on := 7, ground := Ground.phase }, { on := 8, ground := Ground.phase }, { on := 9, ground := Ground.phase }, { on := 10, ground := Ground.phase }, { on := 11, ground := Ground.phase }, { on := 12, ground := Ground.phase }, { on := 13, ground := Ground.phase }, { on := 14, ground := Ground.phase }, { on := 15, ground := Ground.phase }, { on := 16, ground := Ground.phase }, { on := 17, ground := Ground.phase }, { on := 18, ground := Ground.phase }], guard := none }) (v := _) rfl (by kernel_rfl) (by kernel_rfl) (by kernel_rfl) (fun _ _ _ h => h) (Or.inl ⟨by rfl, ?y17⟩) (by assumption) ?r17
      case y17 => (intro w hSw; (try dsimp only at hSw); go_simp; (try with_reducible rfl))
      try simp only [Act.put, List.setIfInBounds_toArray, List.set_cons_succ]
      refine' wpAnyH_take (i := 20) (oi := { dst := some 28, op := Op.fieldAddr 45 (Operand.tmp 27) 4, type := 0, pos := "l2_lex.go:143", after := #[{ on := 19, ground := Ground.data }, { on := 0, ground := Ground.phase }, { on := 1, ground := Ground.phase }, { on := 2, ground := Ground.phase }, { on := 3, ground := Ground.phase }, { on := 4, ground := Ground.phase }, { on := 5, ground := Ground.phase }, { on := 6, ground := Ground.phase }, { on := 7, ground := Ground.phase }, { on := 8, ground := Ground.phase }, { on := 9, ground := Ground.phase }, { on := 10, ground := Ground.phase }, { on := 11, ground := Ground.phase }, { on := 12, ground := Ground.phase }, { on := 13, ground := Ground.phase }, { on := 14, ground := Ground.phase }, { on := 15, ground := Ground.phase }, { on := 16, ground := Ground.phase }, { on := 17, ground := Ground.phase }, { on := 18, ground := Ground.phase }], guard := none }) (v := _) rfl (by kernel_rfl) (by kernel_rfl) (by kernel_rfl) (fun _ _ _ h => h) (Or.inl ⟨by rfl, ?y18⟩) (by assumption) ?r18
      case y18 => (intro w hSw; (try dsimp only at hSw); go_simp; (try with_reducible rfl))
      try simp only [Act.put, List.setIfInBounds_toArray, List.set_cons_succ]
      refine' wpAnyH_take (i := 21) (oi := { dst := some 29, op := Op.fieldAddr 24 (Operand.tmp 28) 3, type := 0, pos := "l2_lex.go:143", after := #[{ on := 20, ground := Ground.data }, { on := 0, ground := Ground.phase }, { on := 1, ground := Ground.phase }, { on := 2, ground := Ground.phase }, { on := 3, ground := Ground.phase }, { on := 4, ground := Ground.phase }, { on := 5, ground := Ground.phase }, { on := 6, ground := Ground.phase }, { on := 7, ground := Ground.phase }, { on := 8, ground := Ground.phase }, { on := 9, ground := Ground.phase }, { on := 10, ground := Ground.phase }, { on := 11, ground := Ground.phase }, { on := 12, ground := Ground.phase }, { on := 13, ground := Ground.phase }, { on := 14, ground := Ground.phase }, { on := 15, ground := Ground.phase }, { on := 16, ground := Ground.phase }, { on := 17, ground := Ground.phase }, { on := 18, ground := Ground.phase }], guard := none }) (v := _) rfl (by kernel_rfl) (by kernel_rfl) (by kernel_rfl) (fun _ _ _ h => h) (Or.inl ⟨by rfl, ?y19⟩) (by assumption) ?r19
      case y19 => (intro w hSw; (try dsimp only at hSw); go_simp; (try with_reducible rfl))
      try simp only [Act.put, List.setIfInBounds_toArray, List.set_cons_succ]
      refine wpAnyH_ready (rs := [22]) (by kernel_rfl) (by simp) ?_
      refine AllReadyH.cons (o := { dst := none, op := Op.store 22 (Operand.tmp 29) (Operand.tmp 26), type := 0, pos := "l2_lex.go:143", after := #[{ on := 21, ground := Ground.data }, { on := 18, ground := Ground.data }, { on := 18, ground := Ground.chain }, { on := 0, ground := Ground.phase }, { on := 1, ground := Ground.phase }, { on := 2, ground := Ground.phase }, { on := 3, ground := Ground.phase }, { on := 4, ground := Ground.phase }, { on := 5, ground := Ground.phase }, { on := 6, ground := Ground.phase }, { on := 7, ground := Ground.phase }, { on := 8, ground := Ground.phase }, { on := 9, ground := Ground.phase }, { on := 10, ground := Ground.phase }, { on := 11, ground := Ground.phase }, { on := 12, ground := Ground.phase }, { on := 13, ground := Ground.phase }, { on := 14, ground := Ground.phase }, { on := 15, ground := Ground.phase }, { on := 16, ground := Ground.phase }, { on := 17, ground := Ground.phase }, { on := 18, ground := Ground.phase }], guard := none }) rfl (fun K hK => ?_) AllReadyH.nil
      go_simp
      refine hK.out _ _ ⟨(h6.set7 _).c2, (h6.set7 _).c3⟩ (fun hHeld4 => ?_)
      clear hK K
      try simp only [Act.put]
      refine wpAnyH_done (by kernel_rfl) ?_ _
      go_wp2_with fail
      go_meet
      case rel =>
        refine ⟨ao6, cp6, h6.set7 _, ?_, ?_⟩
        · exact hT6.only (Only.setCell W6 ⟨b, 7, none⟩ _) (Nat.lt_succ_self b)
        · exact (((Below.refl b w).alloc (by omega) _).drew.grown hg6 (by simp; omega) (fun j hj => by have := (World.ownsRow.lt hT.2 j hj).1; omega)).setCell (p := ⟨b, 7, none⟩) (Nat.le_refl b) _
    · refine AllReadyH.cons (o := { dst := some 25, op := Op.buildSlice 22 1 #[(0, Operand.tmp 24)], type := 22, pos := "l2_lex.go:143", after := #[{ on := 16, ground := Ground.data }], guard := none }) rfl (fun K hK => ?_) AllReadyH.nil
      go_simp
      refine hK.out _ _ (hka _) (fun hHeld1 => ?_)
      clear hK K
      try simp only [Act.put, List.setIfInBounds_toArray, List.set_cons_succ]
      refine wpAnyH_ready (rs := [5]) (by kernel_rfl) (by simp) ?_
      refine AllReadyH.cons (o := { dst := some 13, op := Op.load 22 (Operand.tmp 12), type := 22, pos := "l2_lex.go:143", after := #[{ on := 4, ground := Ground.data }], guard := none }) rfl (fun K hK => ?_) AllReadyH.nil
      go_simp
      refine hK.out _ _ (hka _) (fun hHeld2 => ?_)
      clear hK K
      try simp only [Act.put, List.setIfInBounds_toArray, List.set_cons_succ]
      refine wpAnyH_ready (rs := [18]) (by kernel_rfl) (by simp) ?_
      refine AllReadyH.cons (o := { dst := some 26, op := Op.call { callee := Callee.builtin Builtin.append, args := #[Operand.tmp 13, Operand.tmp 25], argTypes := #[22, 22] }, type := 22, pos := "l2_lex.go:143", after := #[{ on := 5, ground := Ground.data }, { on := 17, ground := Ground.data }], guard := none }) rfl (fun K hK => ?_) AllReadyH.nil
      refine tok_draw rfl _ _ rfl (b + 1) _ ao cap n T ⟨k, t, pl s a, pc s a⟩ ⟨w.heap.size, 0, none⟩ rfl rfl (by simp; omega) ((hT.alloc _).drewN 1) (new_cells w _ _ 33 rfl) hl ?_
      intro ao6 cp6 W6 hT6 hg6
      have hb6 : W6.heap[b]? = w.heap[b]? := (hg6.block b (by simp; omega) (fun e => by have := (World.ownsRow.lt hT.2 b e.symm).1; omega)).trans (Below.heap_alloc w _ b lt)
      have h6 := h.kept hb6 (by have := hg6.size; simp at this; omega)
      have f7 := h6.fr 7
      have g7 := h6.c7
      refine hK.out _ _ ⟨h6.c2, h6.c3⟩ (fun hHeld3 => ?_)
      clear hK K
      try simp only [Act.put, List.setIfInBounds_toArray, List.set_cons_succ]
      refine' wpAnyH_take (i := 19) (oi := { dst := some 27, op := Op.nilCheck (Operand.tmp 8), type := 0, pos := "l2_lex.go:143", after := #[{ on := 0, ground := Ground.data }, { on := 0, ground := Ground.phase }, { on := 1, ground := Ground.phase }, { on := 2, ground := Ground.phase }, { on := 3, ground := Ground.phase }, { on := 4, ground := Ground.phase }, { on := 5, ground := Ground.phase }, { on := 6, ground := Ground.phase }, { on := 7, ground := Ground.phase }, { on := 8, ground := Ground.phase }, { on := 9, ground := Ground.phase }, { on := 10, ground := Ground.phase }, { on := 11, ground := Ground.phase }, { on := 12, ground := Ground.phase }, { on := 13, ground := Ground.phase }, { on := 14, ground := Ground.phase }, { on := 15, ground := Ground.phase }, { on := 16, ground := Ground.phase }, { on := 17, ground := Ground.phase }, { on := 18, ground := Ground.phase }], guard := none }) (v := _) rfl (by kernel_rfl) (by kernel_rfl) (by kernel_rfl) (fun _ _ _ h => h) (Or.inl ⟨by rfl, ?y20⟩) (by assumption) ?r20
      case y20 => (intro w hSw; (try dsimp only at hSw); go_simp; (try with_reducible rfl))
      try simp only [Act.put, List.setIfInBounds_toArray, List.set_cons_succ]
      refine' wpAnyH_take (i := 20) (oi := { dst := some 28, op := Op.fieldAddr 45 (Operand.tmp 27) 4, type := 0, pos := "l2_lex.go:143", after := #[{ on := 19, ground := Ground.data }, { on := 0, ground := Ground.phase }, { on := 1, ground := Ground.phase }, { on := 2, ground := Ground.phase }, { on := 3, ground := Ground.phase }, { on := 4, ground := Ground.phase }, { on := 5, ground := Ground.phase }, { on := 6, ground := Ground.phase }, { on := 7, ground := Ground.phase }, { on := 8, ground := Ground.phase }, { on := 9, ground := Ground.phase }, { on := 10, ground := Ground.phase }, { on := 11, ground := Ground.phase }, { on := 12, ground := Ground.phase }, { on := 13, ground := Ground.phase }, { on := 14, ground := Ground.phase }, { on := 15, ground := Ground.phase }, { on := 16, ground := Ground.phase }, { on := 17, ground := Ground.phase }, { on := 18, ground := Ground.phase }], guard := none }) (v := _) rfl (by kernel_rfl) (by kernel_rfl) (by kernel_rfl) (fun _ _ _ h => h) (Or.inl ⟨by rfl, ?y21⟩) (by assumption) ?r21
      case y21 => (intro w hSw; (try dsimp only at hSw); go_simp; (try with_reducible rfl))
      try simp only [Act.put, List.setIfInBounds_toArray, List.set_cons_succ]
      refine' wpAnyH_take (i := 21) (oi := { dst := some 29, op := Op.fieldAddr 24 (Operand.tmp 28) 3, type := 0, pos := "l2_lex.go:143", after := #[{ on := 20, ground := Ground.data }, { on := 0, ground := Ground.phase }, { on := 1, ground := Ground.phase }, { on := 2, ground := Ground.phase }, { on := 3, ground := Ground.phase }, { on := 4, ground := Ground.phase }, { on := 5, ground := Ground.phase }, { on := 6, ground := Ground.phase }, { on := 7, ground := Ground.phase }, { on := 8, ground := Ground.phase }, { on := 9, ground := Ground.phase }, { on := 10, ground := Ground.phase }, { on := 11, ground := Ground.phase }, { on := 12, ground := Ground.phase }, { on := 13, ground := Ground.phase }, { on := 14, ground := Ground.phase }, { on := 15, ground := Ground.phase }, { on := 16, ground := Ground.phase }, { on := 17, ground := Ground.phase }, { on := 18, ground := Ground.phase }], guard := none }) (v := _) rfl (by kernel_rfl) (by kernel_rfl) (by kernel_rfl) (fun _ _ _ h => h) (Or.inl ⟨by rfl, ?y22⟩) (by assumption) ?r22
      case y22 => (intro w hSw; (try dsimp only at hSw); go_simp; (try with_reducible rfl))
      try simp only [Act.put, List.setIfInBounds_toArray, List.set_cons_succ]
      refine wpAnyH_ready (rs := [22]) (by kernel_rfl) (by simp) ?_
      refine AllReadyH.cons (o := { dst := none, op := Op.store 22 (Operand.tmp 29) (Operand.tmp 26), type := 0, pos := "l2_lex.go:143", after := #[{ on := 21, ground := Ground.data }, { on := 18, ground := Ground.data }, { on := 18, ground := Ground.chain }, { on := 0, ground := Ground.phase }, { on := 1, ground := Ground.phase }, { on := 2, ground := Ground.phase }, { on := 3, ground := Ground.phase }, { on := 4, ground := Ground.phase }, { on := 5, ground := Ground.phase }, { on := 6, ground := Ground.phase }, { on := 7, ground := Ground.phase }, { on := 8, ground := Ground.phase }, { on := 9, ground := Ground.phase }, { on := 10, ground := Ground.phase }, { on := 11, ground := Ground.phase }, { on := 12, ground := Ground.phase }, { on := 13, ground := Ground.phase }, { on := 14, ground := Ground.phase }, { on := 15, ground := Ground.phase }, { on := 16, ground := Ground.phase }, { on := 17, ground := Ground.phase }, { on := 18, ground := Ground.phase }], guard := none }) rfl (fun K hK => ?_) AllReadyH.nil
      go_simp
      refine hK.out _ _ ⟨(h6.set7 _).c2, (h6.set7 _).c3⟩ (fun hHeld4 => ?_)
      clear hK K
      try simp only [Act.put]
      refine wpAnyH_done (by kernel_rfl) ?_ _
      go_wp2_with fail
      go_meet
      case rel =>
        refine ⟨ao6, cp6, h6.set7 _, ?_, ?_⟩
        · exact hT6.only (Only.setCell W6 ⟨b, 7, none⟩ _) (Nat.lt_succ_self b)
        · exact (((Below.refl b w).alloc (by omega) _).drew.grown hg6 (by simp; omega) (fun j hj => by have := (World.ownsRow.lt hT.2 j hj).1; omega)).setCell (p := ⟨b, 7, none⟩) (Nat.le_refl b) _
  case rest =>
    obtain ⟨ao', cap', h1, hT1, b1⟩ := hcut
    go_wp2_with fail
    refine (mSkip b s a m x4 x5 x6 _ _ h1 hs ha).mono ?_
    rintro e w1 ⟨rfl, h2, o2⟩
    go_wp2_with fail
    go_end0
    exact ⟨rfl, ⟨ao', cap', h2, hT1.only o2 (Nat.lt_succ_self b)⟩, b1.trans (o2.below (Nat.le_refl b))⟩

end Go.Proofs.YtjdncofdjabkiaaDoor

namespace Go.Proofs.YtjdncofdjabkiaaDoor
open Go.RowKit Go.Joins

theorem BR.empty (w : World) : BR w.heap.size (w.alloc (.cells #[] 5)) (some ⟨w.heap.size, 0, none⟩) 0 0 [] :=
  ⟨rfl, rfl, .inr ⟨w.heap.size, 0, #[], (0, 0), rfl, Nat.le_refl _, heap_new w _, by simp, Nat.le_refl _, by unfold maxLen; omega, by simp, by simp [Lib.byteCells]⟩⟩

theorem esc_in (c : Nat) : inL c ⟨#[110, 92, 39, 34]⟩ = (esc c).isSome := by
  rw [show (#[110, 92, 39, 34] : Array UInt8) = [110, 92, 39, 34].toArray from rfl, inL_list]
  unfold esc
  by_cases h1 : c = 110
  · subst h1; rfl
  · by_cases h2 : c = 92
    · subst h2; rfl
    · by_cases h3 : c = 39
      · subst h3; rfl
      · by_cases h4 : c = 34
        · subst h4; rfl
        · simp [h1, h2, h3, h4]

theorem ofNat_bt {s : ByteArray} {i : Nat} (h : i < s.size) : UInt8.ofNat (bt s i) = s[i] := by rw [← bt_in h, UInt8.ofNat_toNat]

/-- What the model tells of what stands between marks. -/
def quoV (s : ByteArray) (m a : Nat) : Value := match quo s m (a + 1) [] with
  | none => .tuple #[.string ⟨#[]⟩, .int .i64 (-1)]
  | some (t, j) => .tuple #[.string ⟨t.toArray⟩, .int .i64 ((j : Int) - a)]

theorem quoV_none {s : ByteArray} {m a : Nat} (h : quo s m (a + 1) [] = none) : quoV s m a = .tuple #[.string ⟨#[]⟩, .int .i64 (-1)] := by unfold quoV; rw [h]
theorem quoV_some {s : ByteArray} {m a j : Nat} {t : List UInt8} (h : quo s m (a + 1) [] = some (t, j)) : quoV s m a = .tuple #[.string ⟨t.toArray⟩, .int .i64 ((j : Int) - a)] := by unfold quoV; rw [h]

theorem esc_val {c : Nat} {e : UInt8} (h : esc c = some e) (hc : c ≠ 110) : (e.toNat : Int) = c ∧ c < 256 := by
  unfold esc at h
  rw [if_neg hc] at h
  split at h
  · cases h; rename_i h; subst h; exact ⟨rfl, by omega⟩
  · split at h
    · cases h; rename_i h; subst h; exact ⟨rfl, by omega⟩
    · split at h
      · cases h; rename_i h; subst h; exact ⟨rfl, by omega⟩
      · cases h

set_option maxHeartbeats 4000000 in
set_option maxRecDepth 100000 in
theorem mQuoted (b : Nat) (s : ByteArray) (a m : Nat) (ln cl : Int) (x4 x5 x6 x7 : Value) (w : World) (h : Lx w b s a ln cl x4 x5 x6 x7) (hs : s.size ≤ 1048576) (ha : a < s.size) (hm : m = 39 ∨ m = 34) :
    Calls Tryd.prog 47 #[.pointer (some ⟨b, 0, none⟩), .int .u8 m] w fun e w' => e = .returned (quoV s m a) ∧ Below w.heap.size w w' := by
  obtain ⟨c0, c1, c2, c3, c4, c5, c6, c7, fr, lt⟩ := id h
  have hlx : ∀ w', Below w.heap.size w w' → w'.cell? ⟨b, 0, none⟩ = some (.string s) ∧ w'.cell? ⟨b, 1, none⟩ = some (.int .i64 a) := fun w' hb =>
    ⟨(hb.cell (p := ⟨b, 0, none⟩) lt).trans c0, (hb.cell (p := ⟨b, 1, none⟩) lt).trans c1⟩
  have HLX := hide hlx
  have hm' : (m : Int) ≤ 255 := by omega
  clear hlx
  have ca0 := ((below_alloc1 w (.cells #[] 5)).cell (p := ⟨b, 1, none⟩) lt).trans c1
  go_enter Tryd.func47, Tryd.ntmps47
  go_wp2_with fail
  go_loopw [6, 7, 8] (fun s6 s7 _ wr => ∃ (i n cp : Nat) (ao : Option Addr) (out : List UInt8), s6 = .slice ao n cp ∧ s7 = .int .i64 i ∧ a + 1 ≤ i ∧ i ≤ s.size ∧ BR w.heap.size wr ao cp n out ∧ out.length ≤ i ∧ Hid (quo s m i out = quo s m (a + 1) []) ∧ Below w.heap.size w wr) (fun _ s7 _ _ => s.size - (intOf s7).toNat)
  case atStart => exact ⟨a + 1, 0, 0, _, [], rfl, by go_num, Nat.le_refl _, by omega, BR.empty w, by simp, rfl, below_alloc1 _ _⟩
  case round =>
    clear ca0 c0 c1 c2 c3 c4 c5 c6 c7 fr
    obtain ⟨i, n, cp, ao, out, rfl, rfl, h1, h2, hR, hol, hq, hb⟩ := hrel
    obtain ⟨c0, c1⟩ := HLX.out wr hb
    have hzw := hb.size
    by_cases hlt : i < s.size
    · have hbt := bt_in hlt
      have hbl := bt_le s i
      have hQ := hq.out
      rw [quo, if_neg (by omega)] at hQ
      by_cases e1 : bt s i = m
      · rw [if_pos e1] at hQ
        have en : Hid (quoV s m a = .tuple #[.string ⟨out.toArray⟩, .int .i64 (((i + 1 : Nat) : Int) - a)]) := quoV_some hQ.symm
        have z1 : ((s[i].toNat : Int) == (m : Int)) = true := by rw [hbt, e1]; simp
        have hcv : (convert 53 9 (.slice ao n cp)).run Tryd.prog wr.drew = .ok (.string ⟨out.toArray⟩) wr.drew := BR.text (B := w.heap.size) (W := wr.drew) hR
        have hai : (a : Int) ≤ i := by omega
        have hi63 : (i : Int) ≤ 1048576 := by omega
        clear hbt hQ e1
        go_wp2_with fail
        go_region
        all_goals
          go_wp2_with fail
          go_ret2
          exact ⟨by rw [en.out]; exact congrArg Ending.returned (by simp), hb.drew⟩
      · rw [if_neg e1] at hQ
        have z1 : ((s[i].toNat : Int) == (m : Int)) = false := by rw [hbt]; simp; omega
        by_cases e2 : bt s i < 32 ∨ 126 < bt s i
        · rw [if_pos e2] at hQ
          have en : Hid (quoV s m a = .tuple #[.string ⟨#[]⟩, .int .i64 (-1)]) := quoV_none hQ.symm
          by_cases e3 : bt s i < 32
          · have z2 : decide ((s[i].toNat : Int) < 32) = true := by rw [hbt]; simp; omega
            clear hbt hQ e1 e2 e3
            go_wp2_with fail
            go_ret2
            exact ⟨by rw [en.out]; rfl, hb⟩
          · have z2 : decide ((s[i].toNat : Int) < 32) = false := by rw [hbt]; simp; omega
            have z3 : decide (126 < (s[i].toNat : Int)) = true := by rw [hbt]; simp; omega
            clear hbt hQ e1 e2 e3
            go_wp2_with fail
            go_ret2
            exact ⟨by rw [en.out]; rfl, hb⟩
        · rw [if_neg e2] at hQ
          have z2 : decide ((s[i].toNat : Int) < 32) = false := by rw [hbt]; simp; omega
          have z3 : decide (126 < (s[i].toNat : Int)) = false := by rw [hbt]; simp; omega
          by_cases e4 : bt s i = 92
          · rw [if_pos e4] at hQ
            have z4 : ((s[i].toNat : Int) == 92) = true := by rw [hbt, e4]; rfl
            by_cases e5 : s.size ≤ i + 1
            · rw [if_pos e5] at hQ
              have en : Hid (quoV s m a = .tuple #[.string ⟨#[]⟩, .int .i64 (-1)]) := quoV_none hQ.symm
              have z5 : ((i : Int) + 1 == (s.size : Int)) = true := by simp; omega
              clear hbt hQ e1 e2 e4 e5
              go_wp2_with fail
              go_ret2
              exact ⟨by rw [en.out]; rfl, hb⟩
            · rw [if_neg e5] at hQ
              have hlt2 : i + 1 < s.size := by omega
              have hbt2 := bt_in hlt2
              obtain ⟨j, hj⟩ : ∃ j, j = i + 1 := ⟨_, rfl⟩
              rw [← hj] at hQ hlt2
              have hbt2 := bt_in hlt2
              have hj' : (i : Int) + 1 = (j : Int) := by omega
              have hj2 : Hid (i + 2 = j + 1) := by unfold Hid; omega
              have z5 : ((j : Int) == (s.size : Int)) = false := by simp; omega
              have hjl : (j : Int) < s.size := by omega
              have hji : i < j := by omega
              have hja : a + 1 ≤ j := by omega
              have hol2 : out.length + 1 ≤ j := by omega
              have HB2 := hide hbt2
              have hE := esc_in (bt s j)
              clear hbt hbt2 e1 e2 e4 e5 hj
              rcases e6 : esc (bt s j) with _ | e
              · rw [e6] at hQ hE
                have en : Hid (quoV s m a = .tuple #[.string ⟨#[]⟩, .int .i64 (-1)]) := quoV_none hQ.symm
                clear hQ
                go_wp2_with fail
                refine (mIn (s[j].toNat) _ _ (by decide)).mono ?_
                rintro e w1 ⟨rfl, rfl⟩
                rw [HB2.out, hE]
                go_wp2_with fail
                go_ret2
                exact ⟨by rw [en.out]; rfl, hb⟩
              · rw [e6] at hQ hE
                simp only at hQ
                have HQ := hide hQ
                have HE6 := hide e6
                clear hQ e6
                by_cases e7 : bt s j = 110
                · have z7 : ((s[j].toNat : Int) == 110) = true := by rw [HB2.out, e7]; rfl
                  have he : e = 10 := by have := HE6.out; rw [e7] at this; simpa [esc] using this.symm
                  subst he
                  clear e7
                  go_wp2_with (first | (at_builtin; refine push_step rfl _ _ rfl w.heap.size _ ao cp n out [10] 1 rfl ⟨wr.heap.size, 0, none⟩ rfl rfl (by simp; omega) (hR.alloc _) (new_bytes wr [10] _ 5 rfl) (by simp; omega) ?_; intro ao6 cp6 n6 W6 hR6 bb6; replace bb6 := ((BK.refl w.heap.size wr).alloc hzw _).trans bb6) | (go_at_call 62; refine (mIn (s[j].toNat) _ _ (by decide)).mono ?_; rintro e w1 ⟨rfl, hw1⟩; obtain rfl : wr = w1 := hw1.symm; rw [HB2.out, hE]))
                  go_roundw
                  case rel => exact ⟨j + 1, n6, cp6, ao6, out ++ [10], rfl, by go_num, by omega, by omega, hR6, by simp; omega, by have := HQ.out; rw [hj2.out] at this; exact this, hb.trans bb6.1⟩
                  case measure => simp [intOf]; omega
                · have z7 : ((s[j].toNat : Int) == 110) = false := by rw [HB2.out]; simp; omega
                  have he := (esc_val HE6.out e7).1
                  have HN : Hid (Lib.byteCells [e] = [.int .u8 (s[j].toNat : Int)]) := by
                    unfold Hid
                    rw [HB2.out, ← he]
                    rfl
                  clear e7 he
                  go_wp2_with (first | (at_builtin; refine push_step rfl _ _ rfl w.heap.size _ ao cp n out [e] 1 rfl ⟨wr.heap.size, 0, none⟩ rfl rfl (by simp; omega) (hR.alloc _) (new_bytes wr [e] _ 5 (by rw [HN.out])) (by simp; omega) ?_; intro ao6 cp6 n6 W6 hR6 bb6; replace bb6 := ((BK.refl w.heap.size wr).alloc hzw _).trans bb6) | (go_at_call 62; refine (mIn (s[j].toNat) _ _ (by decide)).mono ?_; rintro e w1 ⟨rfl, hw1⟩; obtain rfl : wr = w1 := hw1.symm; rw [HB2.out, hE]))
                  go_roundw
                  case rel => exact ⟨j + 1, n6, cp6, ao6, out ++ [e], rfl, by go_num, by omega, by omega, hR6, by simp; omega, by have := HQ.out; rw [hj2.out] at this; exact this, hb.trans bb6.1⟩
                  case measure => simp [intOf]; omega
          · rw [if_neg e4] at hQ
            have z4 : ((s[i].toNat : Int) == 92) = false := by rw [hbt]; simp; omega
            rw [ofNat_bt hlt] at hQ
            have HQ := hide hQ
            clear hbt hQ e1 e2 e4
            go_wp2_with (at_builtin; refine push_step rfl _ _ rfl w.heap.size _ ao cp n out [s[i]] 1 rfl ⟨wr.heap.size, 0, none⟩ rfl rfl (by simp; omega) (hR.alloc _) (new_bytes wr [s[i]] _ 5 rfl) (by simp; omega) ?_; intro ao6 cp6 n6 W6 hR6 bb6; replace bb6 := ((BK.refl w.heap.size wr).alloc hzw _).trans bb6)
            go_roundw
            case rel => exact ⟨i + 1, n6, cp6, ao6, out ++ [s[i]], rfl, by go_num, by omega, by omega, hR6, by simp; omega, HQ, hb.trans bb6.1⟩
            case measure => simp [intOf]; omega
    · have en : Hid (quoV s m a = .tuple #[.string ⟨#[]⟩, .int .i64 (-1)]) := by
        have := hq.out
        rw [quo, if_pos (by omega)] at this
        exact quoV_none this.symm
      go_wp2_with fail
      go_ret2
      exact ⟨by rw [en.out]; rfl, hb⟩

end Go.Proofs.YtjdncofdjabkiaaDoor

