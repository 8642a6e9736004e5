import Derived.Test.YtmfngmkhdppnjaaHn
import Derived.Deep.DeepCutAuto
namespace Go.Proofs.Ytmfngmkhdppnjaa
open Go.RowKit Go.Joins

theorem Try.info2 : (Try.prog.info? 2).map (fun i => (i.zero, i.size, i.bytes)) = some (some (.int .i64 0), 1, 8) := by kernel_rfl
theorem heap_new (W : World) (o : Obj) : (W.alloc o).heap[W.heap.size]? = some o := (MapKept.heap_alloc W o).1

theorem run_ir (t ty : TypeId) (ht : Try.prog.underlying t = some (.slice 2)) (B : Nat) (W : World) (v : Value) (L : List Nat) (x : Nat) (ad : Addr) (hown : IR B W v L) (hx : W.cell? ad = some (iv x)) (hl : L.length ≤ 1048576) (hB : B ≤ W.heap.size) :
    ∃ b cap W', (Builtin.append_ #[t, t] ty #[v, .slice (some ad) 1 1]).run Try.prog W = .ok (.slice (some ⟨b, 0, none⟩) (L.length + 1) cap) W' ∧ IR B W' (.slice (some ⟨b, 0, none⟩) (L.length + 1) cap) (L ++ [x]) ∧ W.grownBy W' v.ownBlock ∧ (v.ownBlock = some b ∨ b = W.heap.size) ∧ b < W'.heap.size := by
  obtain ⟨i0, hi, hz0, hz1, hz2⟩ := info_parts Try.info2
  obtain ⟨b, cap, W', h1, h2, h3, h4, h5⟩ := run_append_lies (P := Try.prog) W t ty B 2 i0 (.int .i64 0) 1 8 ht hi hz0 hz1 hz2 rfl (by decide) v L.length (L.map iv) hown ad 1 1 [iv x] (by simp)
    (fun j u hj => by
      rcases j with _ | j
      · simp only [List.getElem?_cons_zero, Option.some.injEq] at hj
        subst hj
        have : ad.add 0 = ad := by unfold Addr.add; split <;> simp_all
        rw [this]; exact hx
      · simp at hj)
    (fun u hu => by simp only [List.mem_singleton] at hu; subst hu; rfl) (by decide) (by unfold maxLen; omega) (by omega) hB W.heap.size rfl
  refine ⟨b, cap, W', h1, ?_, h3, h4, h5⟩
  unfold IR
  rw [List.map_append, List.length_append]
  exact h2

theorem ir_step {ops : Array Oper} {rest : List Oper} {o : Oper} {a : Act} {Q : Exit → Act → World → Prop} (t : TypeId) (ht : Try.prog.underlying t = some (.slice 2)) (hgd : o.guard = none) (s x : Operand)
    (ho : o.op = .call { callee := .builtin .append, args := #[s, x], argTypes := #[t, t] })
    (B : Nat) (W : World) (v : Value) (L : List Nat) (k : Nat) (ad : Addr) (hs : a.eval s = v) (hx : a.eval x = .slice (some ad) 1 1) (hB : B ≤ W.heap.size) (hown : IR B W v L) (hk : W.cell? ad = some (iv k)) (hl : L.length ≤ 1048576)
    (h : ∀ b cap W', IR B W' (.slice (some ⟨b, 0, none⟩) (L.length + 1) cap) (L ++ [k]) → W.grownBy W' v.ownBlock → (v.ownBlock = some b ∨ b = W.heap.size) → b < W'.heap.size → wpList Try.prog ops Q rest (a.put o.dst (.slice (some ⟨b, 0, none⟩) (L.length + 1) cap)) W') : wpList Try.prog ops Q (o :: rest) a W := by
  refine wpList_plain hgd fun K hK => ?_
  obtain ⟨b, cap, w', hr, h2, h3, h4, h5⟩ := run_ir t o.type ht B W v L k ad hown hk hl hB
  unfold Oper.wp execOp
  simp only [ho, resolve, invoke, builtin, Sem.run_bind, Sem.run_pure, Result.andThen_ok, List.map_toArray, List.map_cons, List.map_nil, hs, hx, hr]
  exact hK _ _ (h b cap w' h2 h3 h4 h5)

theorem ir_draw {ops : Array Oper} {o : Oper} {a : Act} {K : Act → World → Prop} {Q : Exit → Act → World → Prop} {E : Prop} (t : TypeId) (ht : Try.prog.underlying t = some (.slice 2)) (hgd : o.guard = none) (s x : Operand)
    (ho : o.op = .call { callee := .builtin .append, args := #[s, x], argTypes := #[t, t] })
    (B : Nat) (W : World) (v : Value) (L : List Nat) (k : Nat) (ad : Addr) (hs : a.eval s = v) (hx : a.eval x = .slice (some ad) 1 1) (hB : B ≤ W.heap.size) (hown : IR B W v L) (hk : W.cell? ad = some (iv k)) (hl : L.length ≤ 1048576)
    (h : ∀ b cap W', IR B W' (.slice (some ⟨b, 0, none⟩) (L.length + 1) cap) (L ++ [k]) → W.grownBy W' v.ownBlock → (v.ownBlock = some b ∨ b = W.heap.size) → b < W'.heap.size → K (a.put o.dst (.slice (some ⟨b, 0, none⟩) (L.length + 1) cap)) W') :
    if Region.wanted o (yielded ops a.tmps) = true then Oper.wp Try.prog o a W K Q else E := by
  have hw : Region.wanted o (yielded ops a.tmps) = true := by simp [Region.wanted, hgd]
  rw [if_pos hw]
  obtain ⟨b, cap, w', hr, h2, h3, h4, h5⟩ := run_ir t o.type ht B W v L k ad hown hk hl hB
  unfold Oper.wp execOp
  simp only [ho, resolve, invoke, builtin, Sem.run_bind, Sem.run_pure, Result.andThen_ok, List.map_toArray, List.map_cons, List.map_nil, hs, hx, hr]
  exact h b cap w' h2 h3 h4 h5

theorem run_ta (x : Int) (w : World) : (Instr.typeAssert (.iface 2 (.int .i64 x)) 20 2 false).run Try.prog w = .ok (.int .i64 x) w := by kernel_rfl

theorem cell_new (W : World) (x : Value) (t : TypeId) : (W.alloc (.cells #[x] t)).cell? ⟨W.heap.size, 0, none⟩ = some x := by simp

theorem IR.alloc {B : Nat} {w : World} {v : Value} {L : List Nat} (h : IR B w v L) (o : Obj) : IR B (w.alloc o) v L := World.ownsRow.alloc h o
theorem IR.drew {B : Nat} {w : World} {v : Value} {L : List Nat} (h : IR B w v L) : IR B w.drew v L := h
theorem IR.lt {B : Nat} {w : World} {v : Value} {L : List Nat} (h : IR B w v L) : ∀ k, v.ownBlock = some k → B ≤ k ∧ k < w.heap.size := World.ownsRow.lt h
theorem IR.kept {B : Nat} {w w' : World} {v : Value} {L : List Nat} (h : IR B w v L) {S : Nat → Prop} (k : Kept S w w') (hS : ∀ c, v.ownBlock = some c → S c) : IR B w' v L := by
  obtain ⟨h1, h2⟩ := h
  refine ⟨h1, ?_⟩
  rcases h2 with h2 | ⟨b, cap, cur, rfl, hb, hg, rest⟩
  · exact .inl h2
  · refine .inr ⟨b, cap, cur, rfl, hb, ?_, rest⟩
    have hlt : b < w.heap.size := (Array.getElem?_eq_some_iff.1 hg).1
    rw [k.block b hlt (hS b rfl)]
    exact hg

set_option maxHeartbeats 1000000 in
set_option maxRecDepth 100000 in
theorem push46 (hb B : Nat) (v : Value) (L : List Nat) (x : Nat) (w : World) (h : HB w hb B v L) (hl : L.length < 1048576) (hB : B ≤ w.heap.size) :
    Calls Try.prog 46 #[.pointer (some ⟨hb, 0, none⟩), .iface 2 (.int .i64 x)] w fun e w' => e = .returned (.tuple #[]) ∧ ∃ b cap, HB w' hb B (.slice (some ⟨b, 0, none⟩) (L.length + 1) cap) (L ++ [x]) ∧ (v.ownBlock = some b ∨ w.heap.size ≤ b) ∧ Kept (fun c => c ≠ hb ∧ v.ownBlock ≠ some c) w w' := by
  obtain ⟨n, hn⟩ : ∃ n, n = L.length := ⟨_, rfl⟩
  have HN := hide hn
  have c0 := h.cell
  have lt := h.lt
  have H := hide h
  have HR := hide h.row
  have c0a : ∀ o, (w.alloc o).drew.cell? ⟨hb, 0, none⟩ = some v := fun o => ((below_alloc1 w o).cell (p := ⟨hb, 0, none⟩) lt).trans c0
  have hTA := run_ta (x : Int)
  clear h
  go_enter Try.func46, Try.ntmps46
  go_upto_region 0 with fail
  refine wp_region_held_drew (S := (fun _ => True)) (by kernel_rfl) trivial (fun hHeld => ?_)
  refine' wpAnyH_take (i := 0) (oi := { dst := some 4, op := Op.move (Operand.tmp 0), type := 58, pos := "l7_program.go:76", after := #[], guard := none }) (v := _) rfl (by kernel_rfl) (by kernel_rfl) (by kernel_rfl) (fun _ _ _ h => h) (Or.inl ⟨by rfl, ?y1⟩) (by assumption) ?r1
  case y1 => (intro w hSw; (try dsimp only at hSw); go_simp; (try with_reducible rfl))
  try simp only [Act.put, List.setIfInBounds_toArray, List.set_cons_succ]
  refine' wpAnyH_take (i := 1) (oi := { dst := some 5, op := Op.move (Operand.tmp 0), type := 58, pos := "l7_program.go:76", after := #[], guard := none }) (v := _) rfl (by kernel_rfl) (by kernel_rfl) (by kernel_rfl) (fun _ _ _ h => h) (Or.inl ⟨by rfl, ?y2⟩) (by assumption) ?r2
  case y2 => (intro w hSw; (try dsimp only at hSw); go_simp; (try with_reducible rfl))
  try simp only [Act.put, List.setIfInBounds_toArray, List.set_cons_succ]
  refine' wpAnyH_take (i := 2) (oi := { dst := some 6, op := Op.nilCheck (Operand.tmp 5), type := 0, pos := "l7_program.go:76", after := #[{ on := 1, ground := Ground.data }], guard := none }) (v := _) rfl (by kernel_rfl) (by kernel_rfl) (by kernel_rfl) (fun _ _ _ h => h) (Or.inl ⟨by rfl, ?y3⟩) (by assumption) ?r3
  case y3 => (intro w hSw; (try dsimp only at hSw); go_simp; (try with_reducible rfl))
  try simp only [Act.put, List.setIfInBounds_toArray, List.set_cons_succ]
  refine' wpAnyH_take (i := 4) (oi := { dst := some 8, op := Op.move (Operand.tmp 1), type := 20, pos := "l7_program.go:76", after := #[], guard := none }) (v := _) rfl (by kernel_rfl) (by kernel_rfl) (by kernel_rfl) (fun _ _ _ h => h) (Or.inl ⟨by rfl, ?y4⟩) (by assumption) ?r4
  case y4 => (intro w hSw; (try dsimp only at hSw); go_simp; (try with_reducible rfl))
  try simp only [Act.put, List.setIfInBounds_toArray, List.set_cons_succ]
  refine' wpAnyH_take (i := 5) (oi := { dst := some 9, op := Op.typeAssert (Operand.tmp 8) 20 2 false, type := 2, pos := "l7_program.go:76", after := #[{ on := 4, ground := Ground.data }], guard := none }) (v := _) rfl (by kernel_rfl) (by kernel_rfl) (by kernel_rfl) (fun _ _ _ h => h) (Or.inl ⟨by rfl, ?y5⟩) (by assumption) ?r5
  case y5 => (intro w hSw; (try dsimp only at hSw); go_simp; (try with_reducible rfl))
  try simp only [Act.put, List.setIfInBounds_toArray, List.set_cons_succ]
  refine wpAnyH_ready (rs := [3, 6]) (by kernel_rfl) (by simp) ?_
  refine AllReadyH.cons (o := { dst := some 7, op := Op.load 59 (Operand.tmp 6), type := 59, pos := "l7_program.go:76", after := #[{ on := 2, ground := Ground.data }], guard := none }) rfl (fun K hK => ?_) ?_
  · go_simp
    refine hK.out _ _ trivial (fun hHeld1 => ?_)
    clear hK K
    try simp only [Act.put, List.setIfInBounds_toArray, List.set_cons_succ]
    refine wpAnyH_ready (rs := [6]) (by kernel_rfl) (by simp) ?_
    refine AllReadyH.cons (o := { dst := some 10, op := Op.buildSlice 59 1 #[(0, Operand.tmp 9)], type := 59, pos := "l7_program.go:76", after := #[{ on := 5, ground := Ground.data }], guard := none }) rfl (fun K hK => ?_) AllReadyH.nil
    go_simp
    refine hK.out _ _ trivial (fun hHeld2 => ?_)
    clear hK K
    try simp only [Act.put, List.setIfInBounds_toArray, List.set_cons_succ]
    refine wpAnyH_ready (rs := [7]) (by kernel_rfl) (by simp) ?_
    refine AllReadyH.cons (o := { dst := some 11, op := Op.call { callee := Callee.builtin Builtin.append, args := #[Operand.tmp 7, Operand.tmp 10], argTypes := #[59, 59] }, type := 59, pos := "l7_program.go:76", after := #[{ on := 3, ground := Ground.data }, { on := 6, ground := Ground.data }], guard := none }) rfl (fun K hK => ?_) AllReadyH.nil
    refine ir_draw 59 Try.underlying59 rfl _ _ rfl B _ v L x ⟨w.heap.size, 0, none⟩ rfl rfl (by simp; omega) ((HR.out.alloc _).drew) (cell_new w _ _) (by omega) ?_
    intro b cap W6 hR6 hg6 hat6 hlt6
    have hvl := HR.out.lt
    have hb6 : W6.heap[hb]? = w.heap[hb]? := (hg6.block hb (by simp; omega) (fun e => H.out.ne e.symm)).trans (Below.heap_alloc w _ hb lt)
    have c6 : W6.cell? ⟨hb, 0, none⟩ = some v := (World.cell?_of_block (w := w) hb6).trans c0
    have f6 : W6.frozen? ⟨hb, 0, none⟩ = false := (World.frozen?_of_block (w := w) hb6).trans H.out.fr
    have z6 : w.heap.size + 1 ≤ W6.heap.size := by have := hg6.size; simpa using this
    have hbne : b ≠ hb := by
      rcases hat6 with e | e
      · intro e2; exact H.out.ne (by rw [e, e2])
      · rw [e]; simp; omega
    refine hK.out _ _ trivial (fun hHeld3 => ?_)
    clear hK K
    try simp only [Act.put, List.setIfInBounds_toArray, List.set_cons_succ]
    refine' wpAnyH_take (i := 8) (oi := { dst := some 12, op := Op.nilCheck (Operand.tmp 4), type := 0, pos := "l7_program.go:76", after := #[{ on := 0, ground := Ground.data }, { on := 0, ground := Ground.phase }, { on := 1, ground := Ground.phase }, { on := 2, ground := Ground.phase }, { on := 3, ground := Ground.phase }, { on := 4, ground := Ground.phase }, { on := 5, ground := Ground.phase }, { on := 6, ground := Ground.phase }, { on := 7, ground := Ground.phase }], guard := none }) (v := _) rfl (by kernel_rfl) (by kernel_rfl) (by kernel_rfl) (fun _ _ _ h => h) (Or.inl ⟨by rfl, ?y6⟩) (by assumption) ?r6
    case y6 => (intro w hSw; (try dsimp only at hSw); go_simp; (try with_reducible rfl))
    try simp only [Act.put, List.setIfInBounds_toArray, List.set_cons_succ]
    refine wpAnyH_ready (rs := [9]) (by kernel_rfl) (by simp) ?_
    refine AllReadyH.cons (o := { dst := none, op := Op.store 59 (Operand.tmp 12) (Operand.tmp 11), type := 0, pos := "l7_program.go:76", after := #[{ on := 8, ground := Ground.data }, { on := 7, ground := Ground.data }, { on := 7, ground := Ground.chain }, { on := 0, ground := Ground.phase }, { on := 1, ground := Ground.phase }, { on := 2, ground := Ground.phase }, { on := 3, ground := Ground.phase }, { on := 4, ground := Ground.phase }, { on := 5, ground := Ground.phase }, { on := 6, ground := Ground.phase }, { on := 7, ground := Ground.phase }], guard := none }) rfl (fun K hK => ?_) AllReadyH.nil
    go_simp
    refine hK.out _ _ trivial (fun hHeld4 => ?_)
    clear hK K
    try simp only [Act.put]
    refine wpAnyH_done (by kernel_rfl) ?_ _
    go_wp2_with fail
    go_end0
    refine ⟨rfl, b, cap, ⟨by simp; omega, ?_, by rw [World.frozen?_setCell]; exact f6, ?_, fun e => hbne (by simpa [Value.ownBlock] using e), by simp; omega⟩, ?_, ?_⟩
    · exact World.cell?_setCell_same _ _ _ c6
    · exact hR6.kept (Kept.setCell (fun c => c ≠ hb) _ _ _ (by simp)) (fun c hc => by simp [Value.ownBlock] at hc; omega)
    · rcases hat6 with e | e
      · exact .inl e
      · right; rw [e]; simp
    · refine (Kept.alloc _ _ _).trans ((Kept.drew _ _).trans ((Kept.grown hg6 ?_).trans (Kept.setCell _ _ _ _ (by simp))))
      intro k hk hc
      exact hc.2 hk
  · refine AllReadyH.cons (o := { dst := some 10, op := Op.buildSlice 59 1 #[(0, Operand.tmp 9)], type := 59, pos := "l7_program.go:76", after := #[{ on := 5, ground := Ground.data }], guard := none }) rfl (fun K hK => ?_) AllReadyH.nil
    go_simp
    refine hK.out _ _ trivial (fun hHeld1 => ?_)
    clear hK K
    try simp only [Act.put, List.setIfInBounds_toArray, List.set_cons_succ]
    refine wpAnyH_ready (rs := [3]) (by kernel_rfl) (by simp) ?_
    refine AllReadyH.cons (o := { dst := some 7, op := Op.load 59 (Operand.tmp 6), type := 59, pos := "l7_program.go:76", after := #[{ on := 2, ground := Ground.data }], guard := none }) rfl (fun K hK => ?_) AllReadyH.nil
    go_simp
    refine hK.out _ _ trivial (fun hHeld2 => ?_)
    clear hK K
    try simp only [Act.put, List.setIfInBounds_toArray, List.set_cons_succ]
    refine wpAnyH_ready (rs := [7]) (by kernel_rfl) (by simp) ?_
    refine AllReadyH.cons (o := { dst := some 11, op := Op.call { callee := Callee.builtin Builtin.append, args := #[Operand.tmp 7, Operand.tmp 10], argTypes := #[59, 59] }, type := 59, pos := "l7_program.go:76", after := #[{ on := 3, ground := Ground.data }, { on := 6, ground := Ground.data }], guard := none }) rfl (fun K hK => ?_) AllReadyH.nil
    refine ir_draw 59 Try.underlying59 rfl _ _ rfl B _ v L x ⟨w.heap.size, 0, none⟩ rfl rfl (by simp; omega) ((HR.out.alloc _).drew) (cell_new w _ _) (by omega) ?_
    intro b cap W6 hR6 hg6 hat6 hlt6
    have hvl := HR.out.lt
    have hb6 : W6.heap[hb]? = w.heap[hb]? := (hg6.block hb (by simp; omega) (fun e => H.out.ne e.symm)).trans (Below.heap_alloc w _ hb lt)
    have c6 : W6.cell? ⟨hb, 0, none⟩ = some v := (World.cell?_of_block (w := w) hb6).trans c0
    have f6 : W6.frozen? ⟨hb, 0, none⟩ = false := (World.frozen?_of_block (w := w) hb6).trans H.out.fr
    have z6 : w.heap.size + 1 ≤ W6.heap.size := by have := hg6.size; simpa using this
    have hbne : b ≠ hb := by
      rcases hat6 with e | e
      · intro e2; exact H.out.ne (by rw [e, e2])
      · rw [e]; simp; omega
    refine hK.out _ _ trivial (fun hHeld3 => ?_)
    clear hK K
    try simp only [Act.put, List.setIfInBounds_toArray, List.set_cons_succ]
    refine' wpAnyH_take (i := 8) (oi := { dst := some 12, op := Op.nilCheck (Operand.tmp 4), type := 0, pos := "l7_program.go:76", after := #[{ on := 0, ground := Ground.data }, { on := 0, ground := Ground.phase }, { on := 1, ground := Ground.phase }, { on := 2, ground := Ground.phase }, { on := 3, ground := Ground.phase }, { on := 4, ground := Ground.phase }, { on := 5, ground := Ground.phase }, { on := 6, ground := Ground.phase }, { on := 7, ground := Ground.phase }], guard := none }) (v := _) rfl (by kernel_rfl) (by kernel_rfl) (by kernel_rfl) (fun _ _ _ h => h) (Or.inl ⟨by rfl, ?y7⟩) (by assumption) ?r7
    case y7 => (intro w hSw; (try dsimp only at hSw); go_simp; (try with_reducible rfl))
    try simp only [Act.put, List.setIfInBounds_toArray, List.set_cons_succ]
    refine wpAnyH_ready (rs := [9]) (by kernel_rfl) (by simp) ?_
    refine AllReadyH.cons (o := { dst := none, op := Op.store 59 (Operand.tmp 12) (Operand.tmp 11), type := 0, pos := "l7_program.go:76", after := #[{ on := 8, ground := Ground.data }, { on := 7, ground := Ground.data }, { on := 7, ground := Ground.chain }, { on := 0, ground := Ground.phase }, { on := 1, ground := Ground.phase }, { on := 2, ground := Ground.phase }, { on := 3, ground := Ground.phase }, { on := 4, ground := Ground.phase }, { on := 5, ground := Ground.phase }, { on := 6, ground := Ground.phase }, { on := 7, ground := Ground.phase }], guard := none }) rfl (fun K hK => ?_) AllReadyH.nil
    go_simp
    refine hK.out _ _ trivial (fun hHeld4 => ?_)
    clear hK K
    try simp only [Act.put]
    refine wpAnyH_done (by kernel_rfl) ?_ _
    go_wp2_with fail
    go_end0
    refine ⟨rfl, b, cap, ⟨by simp; omega, ?_, by rw [World.frozen?_setCell]; exact f6, ?_, fun e => hbne (by simpa [Value.ownBlock] using e), by simp; omega⟩, ?_, ?_⟩
    · exact World.cell?_setCell_same _ _ _ c6
    · exact hR6.kept (Kept.setCell (fun c => c ≠ hb) _ _ _ (by simp)) (fun c hc => by simp [Value.ownBlock] at hc; omega)
    · rcases hat6 with e | e
      · exact .inl e
      · right; rw [e]; simp
    · refine (Kept.alloc _ _ _).trans ((Kept.drew _ _).trans ((Kept.grown hg6 ?_).trans (Kept.setCell _ _ _ _ (by simp))))
      intro k hk hc
      exact hc.2 hk

end Go.Proofs.Ytmfngmkhdppnjaa
