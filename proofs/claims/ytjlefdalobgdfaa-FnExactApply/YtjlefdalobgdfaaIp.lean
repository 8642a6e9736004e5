import Derived.Test.YtjlefdalobgdfaaFr
import Derived.Maps.Views
import Derived.Maps.OwnSet
import Derived.Maps.OwnIn
namespace Go.Proofs.Ytjlefdalobgdfaa
open Go.RowKit Go.Shelf Go.Joins

attribute [local go_sem] Oper.semAt_some

/-- The map in block M has the numbers of L. -/
def SM (w : World) (M n : Nat) (L : List Int) : Prop :=
  ∃ D : DataW Unit, w.ownsMap Try.prog 2 unitElem M n D ∧ ∀ x : Int, Maps.has D (.int .i64 x) = decide (x ∈ L)

theorem SM.lt {w : World} {M n : Nat} {L : List Int} (h : SM w M n L) : M < w.heap.size := by
  obtain ⟨D, hD, -⟩ := h
  exact hD.lt

theorem SM.keep {w w' : World} {M n : Nat} {L : List Int} (h : SM w M n L) (hb : w'.heap[M]? = w.heap[M]?) : SM w' M n L := by
  obtain ⟨D, ⟨es, c, h1, h2⟩, h3⟩ := h
  exact ⟨D, ⟨es, c, hb.trans h1, h2⟩, h3⟩

theorem SM.kept {w w' : World} {M n : Nat} {L : List Int} {S : Nat → Prop} (h : SM w M n L) (k : Kept S w w') (hS : S M) : SM w' M n L := h.keep (k.block M h.lt hS)

theorem SM.mono {w : World} {M n m : Nat} {L : List Int} (h : SM w M n L) (hn : n ≤ m) : SM w M m L := by
  obtain ⟨D, hD, h3⟩ := h
  exact ⟨D, hD.mono hn, h3⟩

theorem SM.start (w : World) : SM (w.alloc (.map #[] 0)) w.heap.size 0 [] :=
  ⟨.map [], World.ownsMap_made w _ _ _, fun t => by simp [Maps.has]⟩

theorem zero83 (w : World) : (zeroValue 83).run Try.prog w = .ok (.agg #[]) w := by kernel_rfl

theorem SM.look {w : World} {M n : Nat} {L : List Int} (h : SM w M n L) (x : Int) (hx : (Lit.int .i64 x).wf = true) :
    (Instr.lookup 79 (.map (some M)) (.int .i64 x) true).run Try.prog w = .ok (.tuple #[.agg #[], .bool (decide (x ∈ L))]) w := by
  obtain ⟨D, hD, hat⟩ := h
  obtain ⟨v, ps, hrun, hv⟩ := hD.look_ok (Maps.int_keyed Try.underlying2) Try.underlying79 (zero83 w) (zd := .agg []) (zp := []) unitElem_mk (Maps.keyOf_int_mk Try.underlying2 hx)
  rw [hrun, hat x, (unitElem_inv hv).1]

theorem SM.put {w' : World} {M n : Nat} {L : List Int} {D : DataW Unit} {x : Int} (hI : Maps.IsMap D)
    (hat : ∀ y : Int, Maps.has D (.int .i64 y) = decide (y ∈ L)) (ho : w'.ownsMap Try.prog 2 unitElem M n (D.put (.int .i64 x) (.agg []))) : SM w' M n (L ++ [x]) := by
  refine ⟨_, ho, fun y => ?_⟩
  by_cases e : y = x
  · subst e
    rw [Maps.has_put_same hI (k := .int .i64 y) trivial]
    simp
  · have hne : (Lit.int .i64 y) ≠ .int .i64 x := fun h => by injection h with _ h; exact e h
    rw [Maps.has_put_other hne, hat y]
    simp [e]

def stepI (L : List Int) (x : El) : List Int := if x.k = 1 then addI L x.ix else L
def accI (LL : List El) : List Int := LL.foldl stepI []

theorem Fo.fre_els : ∀ (F : Fo) (d : Nat) (L : List Int), F.good d → (F.els d).foldl stepI L = F.fre L
  | .nil, _, _, _ => rfl
  | .cons k ix nm a cap ks r, d, L, h => by
    simp only [Fo.els, Fo.fre, List.foldl_cons, List.foldl_append]
    rw [ks.fre_els _ _ h.2.2.1, r.fre_els _ _ h.2.2.2]
    congr 1
    by_cases hk : k = 1
    · have hl : ks.len = 0 := by
        rcases h.2.1 with ⟨_, _, _, h4⟩ | ⟨h4, _⟩
        · exact h4
        · omega
      cases ks with
      | nil => simp [stepI, hk, Fo.fre]
      | cons _ _ _ _ _ _ _ => simp [Fo.len] at hl
    · simp [stepI, hk]

theorem Fo.Row.els {W : World} {S : Nat → Prop} : ∀ {F : Fo} {b o : Nat} (d : Nat), F.Row W S b o → ∀ x, x ∈ F.els d → (Lit.int .i64 x.ix).wf = true
  | .nil, _, _, _, _, x, hx => by simp [Fo.els] at hx
  | .cons k ix nm a cap ks r, b, o, d, ⟨_, hix, _, _, _, _, _, h4, h5, h6, h7⟩, x, hx => by
    simp only [Fo.els, List.mem_cons, List.mem_append] at hx
    rcases hx with rfl | hx | hx
    · exact hix
    · by_cases hl : 0 < ks.len
      · obtain ⟨b', o', _, _, hr⟩ := h6 hl
        exact hr.els _ x hx
      · cases ks with
        | nil => simp [Fo.els] at hx
        | cons _ _ _ _ _ _ _ => exact absurd (Nat.succ_pos _) hl
    · exact h7.els _ x hx

theorem Fo.Sl.els {W : World} {S : Nat → Prop} {a : Option Addr} {cap : Nat} {F : Fo} (h : F.Sl W S a cap) (d : Nat) : ∀ x, x ∈ F.els d → (Lit.int .i64 x.ix).wf = true := fun x hx => by
  by_cases hl : 0 < F.len
  · obtain ⟨b', o', _, _, hr⟩ := h.2.2 hl
    exact hr.els _ x hx
  · cases F with
    | nil => simp [Fo.els] at hx
    | cons _ _ _ _ _ _ _ => exact absurd (Nat.succ_pos _) hl

/-- The ids that a type has. -/
noncomputable def idsOf (k ix : Int) (nm : ByteArray) (ks : Fo) : List Int := if fltB k ix nm ks = true then [] else (Fo.cons k ix nm none 0 ks .nil).fre []

theorem run_makeMap79 (w : World) : (Instr.makeMap 79 none).run Try.prog w = .ok (.map (some w.heap.size)) (w.alloc (.map #[] 0)) := run_makeMap ..

/-- One number more behind a row of our own, in a fence. -/
theorem ir_stepIn {F : Fence} {n : Nat} {ops : Array Oper} {rest : List Oper} {o : Oper} {a : Act} {Q : Exit → Act → World → Prop} (t : TypeId) (ht : Try.prog.underlying t = some (.slice 2)) (hgd : o.guard = none) (s x : Operand)
    (ho : o.op = .call { callee := .builtin .append, args := #[s, x], argTypes := #[t, t] })
    (B : Nat) (W : World) (v : Value) (L : List Int) (k : Int) (ad : Addr) (hs : a.eval s = v) (hx : a.eval x = .slice (some ad) 1 1) (hB : B ≤ W.heap.size) (hown : IR B W v L) (hk : W.cell? ad = some (iv k)) (hl : L.length ≤ 1048576)
    (h : ∀ b cap W', IR B W' (.slice (some ⟨b, 0, none⟩) (L.length + 1) cap) (L ++ [k]) → W.grownBy W' v.ownBlock → (v.ownBlock = some b ∨ b = W.heap.size) → b < W'.heap.size → wpListIn F n Try.prog ops Q rest (a.put o.dst (.slice (some ⟨b, 0, none⟩) (L.length + 1) cap)) W') : wpListIn F n Try.prog ops Q (o :: rest) a W := by
  refine wpListIn_plain hgd fun K hK' => ?_
  obtain ⟨b, cap, w', hr, h2, h3, h4, h5⟩ := run_ir t o.type ht B W v L k ad hown hk hl hB
  unfold Oper.wpIn
  refine ⟨?_, ?_⟩
  · simp [Oper.about, ho, resolve, Target.leads, Sem.run_pure]
  · rw [Oper.semAt_plain F _ _ (by rw [ho]; intro c hc'; cases hc')]
    simp [execOp, ho, resolve, invoke, builtin, hs, hx, hr, Result.andThen]
    exact hK' _ _ (h b cap w' h2 h3 h4 h5)

/-- What the walk for variables knows behind k types. -/
def FrI (w : World) (LL : List El) (k : Nat) (O : Nat → Prop) (W : World) : Prop :=
  ∃ va vn vc, Hold w w.heap.size (.slice va vn vc) O W ∧ Hold w (w.heap.size + 1 + 1) (.map (some (w.heap.size + 1))) O W ∧ (¬ O (w.heap.size + 1) ∧ SM W (w.heap.size + 1) k (accI (LL.take k))) ∧
    IR (w.heap.size + 6) W (.slice va vn vc) (accI (LL.take k)) ∧ (∀ c, (Value.slice va vn vc).ownBlock = some c → ¬ O c) ∧ w.heap.size + 6 ≤ W.heap.size

theorem FrI.abid (w : World) (LL : List El) : Abid (FrI w LL) := fun k O O' A B h hK hn => by
  obtain ⟨va, vn, vc, h1, h2, ⟨h3, h4⟩, h5, h6, h7⟩ := h
  refine ⟨va, vn, vc, h1.abid hK hn, h2.abid hK hn, ⟨fun x => ?_, h4.kept hK h3⟩, h5.kept hK h6, fun c hc x => ?_, Nat.le_trans h7 hK.size⟩
  · have := h4.lt
    rcases hn _ x with y | y
    · exact h3 y
    · omega
  · have := (h5.lt c hc).2
    rcases hn _ x with y | y
    · exact h6 c hc y
    · omega

theorem accI_step {LL : List El} {i : Nat} {x : El} (h : LL[i]? = some x) : accI (LL.take (i + 1)) = stepI (accI (LL.take i)) x := by
  unfold accI
  rw [List.take_add_one, h]
  simp [List.foldl_append]

theorem accI_len (LL : List El) : (accI LL).length ≤ LL.length := by
  have key : ∀ (M : List El) (L : List Int), (M.foldl stepI L).length ≤ L.length + M.length := by
    intro M
    induction M with
    | nil => intro L; simp
    | cons x M ih =>
      intro L
      have h1 := ih (stepI L x)
      have h2 : (stepI L x).length ≤ L.length + 1 := by
        unfold stepI
        split
        · exact addI_len _ _
        · omega
      simp only [List.foldl_cons, List.length_cons]
      omega
  have := key LL []
  simpa [accI] using this

set_option maxRecDepth 100000 in
set_option maxHeartbeats 4000000 in
theorem ifree_in (n : Nat) (hn : 5 ≤ n) (k ix : Int) (nm : ByteArray) (a : Option Addr) (cap : Nat) (ks : Fo) (w : World)
    (hk : (Lit.int .i64 k).wf = true) (hix : (Lit.int .i64 ix).wf = true) (hnm : nm.size ≤ maxLen) (hs : ks.Sl w (fun b => b < w.heap.size) a cap) (hsz : ks.size ≤ 1048576) :
    CallsIn Fence.wide n Try.prog 17 #[.agg #[.int .i64 k, .int .i64 ix, .string nm, .slice a ks.len cap]] w fun e W' => ∃ v, e = .returned v ∧ IR w.heap.size W' v (idsOf k ix nm ks) ∧ Below w.heap.size w W' := by
  have h1 : 1 ≤ n := by omega
  have q0 := Box4.new w (.int .i64 k) (.int .i64 ix) (.string nm) (.slice a ks.len cap) 29
  have b0 := below_alloc1 w (.cells #[.int .i64 k, .int .i64 ix, .string nm, .slice a ks.len cap] 29)
  have HF := hide (ifault k ix nm a cap ks (w.alloc (.cells #[.int .i64 k, .int .i64 ix, .string nm, .slice a ks.len cap] 29)) hk hix hnm ((hs.below b0 (fun _ x => x)).mono (fun b x => by simp; omega)) hsz)
  unfold nodeV at HF
  by_cases hT : TG k ix nm ks
  · have hf : fltB k ix nm ks = false := by simp [fltB, hT]
    rw [hf] at HF
    have hids : idsOf k ix nm ks = (Fo.cons k ix nm none 0 ks .nil).fre [] := by unfold idsOf; rw [hf]; simp
    rw [hids]
    have HQ0 := hide q0
    have hz0 : (w.alloc (.cells #[.int .i64 k, .int .i64 ix, .string nm, .slice a ks.len cap] 29)).heap.size = w.heap.size + 1 := by simp
    have HZ0 := hide hz0
    have HB0 := hide b0
    clear q0 b0 hids hf hz0
    refine callsIn_of_wp_marks Try.func17 rfl trivial ?_ rfl
    simp only [Try.ntmps17, List.size_toArray, List.length_cons, List.length_nil, Nat.reduceAdd, Nat.reduceSub, Array.replicate_succ, Array.replicate_zero, List.push_toArray, List.append_toArray, List.nil_append, List.cons_append]
    gi_wp2_with (refine ⟨trivial, ?_⟩; gi_at_call 12; refine (callsIn_wide.2 HF.out).mono ?_; rintro e w1 ⟨rfl, b1⟩; have q1 := HQ0.out.below b1 (by rw [HZ0.out]; omega); have q3 := q1.below (below_alloc3 w1 (.cells #[.slice none 0 0] 34) (.map #[] 0) (.cells #[.map (some (w1.heap.size + 1))] 79)) q1.lt; have x0 := q3.c0; have xi := q3.ci; have x1 := q3.c1; have x2 := q3.c2; have hql : w.heap.size < w1.heap.size := q1.lt; have hmm := run_makeMap79 (w1.alloc (.cells #[.slice none 0 0] 34)))
    gi_wp2_with (refine ⟨trivial, ?_⟩; gi_at_call 50; refine (typesOf_in Fence.wide (n - 1) trivial trivial rfl (by omega) _ _ _ _ _ _ _).mono ?_; rintro e w' ⟨rfl, rfl⟩)
    obtain ⟨LL, hLL⟩ : ∃ LL, LL = (Fo.cons k ix nm a cap ks .nil).els 1 := ⟨_, rfl⟩
    have hLn : LL.length = 1 + ks.size := by rw [hLL, Fo.els_length]; simp only [Fo.size]; omega
    have hids : accI LL = (Fo.cons k ix nm none 0 ks .nil).fre [] := by
      have hg : (Fo.cons k ix nm a cap ks .nil).good 1 := hT.1
      unfold accI
      rw [hLL, Fo.fre_els _ _ _ hg]
      rfl
    have hwf : ∀ x, x ∈ LL → (Lit.int .i64 x.ix).wf = true := fun x hx => by
      rw [hLL] at hx
      simp only [Fo.els, List.mem_cons, List.mem_append, List.not_mem_nil, or_false] at hx
      rcases hx with rfl | hx
      · exact hix
      · exact hs.els _ x hx
    have hbw : Below w.heap.size w w1 := HB0.out.trans (b1.mono (by rw [HZ0.out]; omega))
    have hs1 : ks.Sl w1 (fun b => b < w1.heap.size) a cap := (hs.below hbw (fun _ x => x)).mono (fun b x => by omega)
    obtain ⟨A, hA⟩ : ∃ A, w1.alloc (.cells #[.slice none 0 0] 34) = A := ⟨_, rfl⟩
    have zA : A.heap.size = w1.heap.size + 1 := by rw [← hA]; simp
    have bA : Below w1.heap.size w1 A := by rw [← hA]; exact below_alloc1 _ _
    obtain ⟨B, hB⟩ : ∃ B, A.alloc (.map #[] 0) = B := ⟨_, rfl⟩
    have zB : B.heap.size = w1.heap.size + 1 + 1 := by rw [← hB]; simp [zA]
    have bB : Below A.heap.size A B := by rw [← hB]; exact below_alloc1 _ _
    obtain ⟨C, hC⟩ : ∃ C, B.alloc (.cells #[.map (some (w1.heap.size + 1))] 79) = C := ⟨_, rfl⟩
    have zC : C.heap.size = w1.heap.size + 1 + 1 + 1 := by rw [← hC]; simp [zB]
    have bC : Below B.heap.size B C := by rw [← hC]; exact below_alloc1 _ _
    obtain ⟨W0, hW0⟩ : ∃ W0, ((C.alloc (.cells #[.int .i64 k, .int .i64 ix, .string nm, .slice a ks.len cap] 29)).alloc (.cells #[.int .i64 k, .int .i64 ix, .string nm, .slice a ks.len cap] 29)).alloc (.cells #[.func (.func 78) #[] #[]] 128) = W0 := ⟨_, rfl⟩
    have z0 : W0.heap.size = w1.heap.size + 6 := by rw [← hW0]; simp [zC]
    have bD : Below C.heap.size C W0 := by rw [← hW0]; exact below_alloc3 _ _ _ _
    have hBC : Below A.heap.size A W0 := (bB.trans (bC.mono (by omega))).trans (bD.mono (by omega))
    have hB0 : Below w1.heap.size w1 W0 := bA.trans (hBC.mono (by omega))
    have q4 : Box4 W0 (w1.heap.size + 1 + 1 + 1 + 1) (.int .i64 k) (.int .i64 ix) (.string nm) (.slice a ks.len cap) := by
      rw [← hW0]
      have := (Box4.new (C.alloc (.cells #[.int .i64 k, .int .i64 ix, .string nm, .slice a ks.len cap] 29)) (.int .i64 k) (.int .i64 ix) (.string nm) (.slice a ks.len cap) 29).alloc (.cells #[.func (.func 78) #[] #[]] 128)
      simpa [zC] using this
    have h1c : ∀ (A : World) (v : Value) (t : TypeId), (A.alloc (.cells #[v] t)).cell? ⟨A.heap.size, 0, none⟩ = some v ∧ (A.alloc (.cells #[v] t)).frozen? ⟨A.heap.size, 0, none⟩ = false := fun A v t => ⟨by simp, by simp⟩
    have hfb : W0.cell? ⟨w1.heap.size + 1 + 1 + 1 + 1 + 1, 0, none⟩ = some (.func (.func 78) #[] #[]) := by
      have h2 := (h1c ((C.alloc (.cells #[.int .i64 k, .int .i64 ix, .string nm, .slice a ks.len cap] 29)).alloc (.cells #[.int .i64 k, .int .i64 ix, .string nm, .slice a ks.len cap] 29)) (.func (.func 78) #[] #[]) 128).1
      rw [hW0, World.size_alloc, World.size_alloc, zC] at h2
      exact h2
    have hi0 : Hold w1 w1.heap.size (.slice none 0 0) (fun _ => False) W0 := by
      have h2 := h1c w1 (.slice none 0 0) 34
      rw [hA] at h2
      exact ⟨(hBC.cell (p := ⟨w1.heap.size, 0, none⟩) (by show w1.heap.size < _; omega)).trans h2.1, (hBC.frozen (p := ⟨w1.heap.size, 0, none⟩) (by show w1.heap.size < _; omega)).trans h2.2, fun z => z, hB0, fun _ z => z.elim⟩
    have hm0 : Hold w1 (w1.heap.size + 1 + 1) (.map (some (w1.heap.size + 1))) (fun _ => False) W0 := by
      have h2 := h1c B (.map (some (w1.heap.size + 1))) 79
      rw [hC, zB] at h2
      exact ⟨(bD.cell (p := ⟨w1.heap.size + 1 + 1, 0, none⟩) (by show w1.heap.size + 1 + 1 < _; omega)).trans h2.1, (bD.frozen (p := ⟨w1.heap.size + 1 + 1, 0, none⟩) (by show w1.heap.size + 1 + 1 < _; omega)).trans h2.2, fun z => z, hB0, fun _ z => z.elim⟩
    have hS0 : SM W0 (w1.heap.size + 1) 0 (accI (LL.take 0)) := by
      have h2 := SM.start A
      rw [hB, zA] at h2
      exact h2.keep (((bC.trans (bD.mono (by omega))).block (w1.heap.size + 1) (by omega)))
    have hI0 : FrI w1 LL 0 (fun _ => False) W0 := ⟨none, 0, 0, hi0, hm0, ⟨fun z => z, hS0⟩, IR.nil _ _, fun c hc => (by cases hc), by omega⟩
    rw [hA, hB, hC, hW0]
    have HLn := hide hLn
    have HLL := hide hLL
    have HWF := hide hwf
    have HBW := hide hbw
    have HID := hide hids
    clear hA hB hC hW0 h1c bA bB bC bD hBC zA zB zC hi0 hm0 hS0 hmm x0 xi x1 x2 q3 q1 HQ0 hwf hids hbw hLL hLn
    refine wpIn_range rfl h1 (gf := 84) (lb := #[.pointer (some ⟨w1.heap.size + 1 + 1 + 1 + 1, 0, none⟩), .pointer (some ⟨w1.heap.size + 1 + 1 + 1 + 1 + 1, 0, none⟩)]) rfl trivial (enters_of Try.func84 (by kernel_rfl) rfl)
      (nodes_seq Fence.wide (n - 1) trivial rfl (by omega) (w1.heap.size + 1 + 1 + 1 + 1) w1.heap.size k ix nm a cap ks W0 (w1.heap.size + 1 + 1 + 1 + 1 + 1) trivial hfb (by omega) hk hix hnm q4 (hs1.below hB0 (fun _ x => x)) hsz) (Below.refl _ _) (fun b hb => by omega) (fun _ => rfl)
      (FrI w1 LL) (fun _ _ _ _ => False) (FrI.abid _ _) (fun _ _ _ _ _ _ h _ _ => h) hI0
      (fun i O a' W => ∃ (x : El) (b : Nat), LL[i]? = some x ∧ Box4 W b (.int .i64 x.k) (.int .i64 x.ix) (.string x.nm) (.slice x.a x.len x.cap) ∧ ¬ O b ∧ w1.heap.size + 6 ≤ b ∧ a' = { tmps := #[.agg #[.int .i64 k, .int .i64 ix, .string nm, .slice a ks.len cap], .pointer (some ⟨w.heap.size, 0, none⟩), .slice none 0 0, .pointer (some ⟨w1.heap.size, 0, none⟩), .pointer (some ⟨w1.heap.size + 1 + 1, 0, none⟩),
        undef, .pointer (some ⟨b, 0, none⟩), undef, undef, .agg #[.int .i64 k, .int .i64 ix, .string nm, .slice a ks.len cap], .bool false, .map (some (w1.heap.size + 1)), .agg #[.int .i64 k, .int .i64 ix, .string nm, .slice a ks.len cap],
        .func (.func 84) #[] #[.pointer (some ⟨w1.heap.size + 1 + 1 + 1 + 1, 0, none⟩), .pointer (some ⟨w1.heap.size + 1 + 1 + 1 + 1 + 1, 0, none⟩)], .int .i64 (x.d : Int), .agg #[.int .i64 x.k, .int .i64 x.ix, .string x.nm, .slice x.a x.len x.cap], undef, undef, undef, undef, undef, undef, undef, undef, undef, undef, undef, undef, undef, undef, undef, undef, undef, undef, undef, undef, undef, undef], defers := [] })
      ?assign ?body ?done ?stop
    case assign =>
      intro l i O W K hi hNB hI hK
      have hLn := HLn.out
      obtain ⟨x, hx⟩ : ∃ x, LL[i]? = some x := ⟨_, List.getElem?_eq_getElem (by omega)⟩
      have hv : ((Fo.cons k ix nm a cap ks .nil).pre 1).getD i (0, undef) = (x.d, .agg #[.int .i64 x.k, .int .i64 x.ix, .string x.nm, .slice x.a x.len x.cap]) := by
        rw [Fo.els_pre, ← HLL.out, List.getD_eq_getElem?_getD, List.getElem?_map, hx]
        rfl
      have hO : ¬ O W.heap.size := fun h => by have := (hNB _ h).lt; omega
      have hlt : w1.heap.size + 6 ≤ W.heap.size := by obtain ⟨_, _, _, _, _, _, _, _, h⟩ := hI; exact h
      have hq := Box4.new W (.int .i64 x.k) (.int .i64 x.ix) (.string x.nm) (.slice x.a x.len x.cap) 29
      have hI' := FrI.abid _ _ i O O _ _ hI (Kept.alloc (fun b => ¬ O b) W (.cells #[.int .i64 x.k, .int .i64 x.ix, .string x.nm, .slice x.a x.len x.cap] 29)) (fun b h => .inl h)
      have HK2 := hide (hK _ _ (Kept.alloc _ W (.cells #[.int .i64 x.k, .int .i64 x.ix, .string x.nm, .slice x.a x.len x.cap] 29)) hI' ⟨x, W.heap.size, hx, hq, hO, hlt, rfl⟩)
      clear hK hI hI' hq hlt hO hx
      simp only [encsOf]
      rw [hv]
      clear hv
      gi_wp2
      exact HK2.out
    case body =>
      rintro l i O a' W1 W hi ⟨x, b, hx, hbx, hOb, hwb, rfl⟩ hkp hNB ⟨va, vn, vc, hI, hM, ⟨hmO, hS⟩, hR, hRO, hW6⟩ hO
      have hbW := hbx.kept hkp hOb
      have hxm : x ∈ LL := List.mem_of_getElem? hx
      have hxw := HWF.out x hxm
      have hacc := accI_step hx
      have hal : (accI (LL.take i)).length ≤ 1048576 := by have h1 := accI_len (LL.take i); have h2 := List.length_take_le i LL; have := HLn.out; omega
      obtain ⟨-, e0, ei, e1, e2, -, -, -, -⟩ := id hbW
      obtain ⟨c1, c2, -, -, -⟩ := id hI
      obtain ⟨m1, m2, -, -, -⟩ := id hM
      have HAcc := hide hacc
      clear hacc hbx hkp hxm hx
      by_cases hk1 : x.k = 1
      · have hkb : (x.k != 1) = false := by simp [hk1]
        have hlook := hS.look x.ix hxw
        have hst : stepI (accI (LL.take i)) x = addI (accI (LL.take i)) x.ix := if_pos hk1
        clear hk1
        by_cases hin : x.ix ∈ accI (LL.take i)
        · rw [decide_eq_true hin] at hlook
          have HO : Hid (Kept (fun b => O b ∨ b < w1.heap.size ∨ b = w1.heap.size + 1 + 1 + 1 + 1 + 1) W (W.alloc (.cells #[] 83)) ∧ FrI w1 LL (i + 1) O (W.alloc (.cells #[] 83))) := by
            have hka : Kept (fun b => ¬ O b) W (W.alloc (.cells #[] 83)) := Kept.alloc _ _ _
            refine ⟨Kept.alloc _ _ _, va, vn, vc, hI.abid hka (fun _ h => .inl h), hM.abid hka (fun _ h => .inl h), ⟨hmO, ?_⟩, ?_, hRO, by simp; omega⟩
            · rw [HAcc.out, hst, addI, if_pos hin]; exact (hS.kept hka hmO).mono (by omega)
            · rw [HAcc.out, hst, addI, if_pos hin]; exact hR.kept hka hRO
          clear hin hst
          gi_wp2_with fail
          exact HO.out
        · rw [decide_eq_false hin] at hlook
          have hst2 : stepI (accI (LL.take i)) x = accI (LL.take i) ++ [x.ix] := by rw [hst, addI, if_neg hin]
          have HST := hide hst2
          obtain ⟨D0, hD0, hat0⟩ := id hS
          have HD := hide (hD0.alloc (.cells #[] 83))
          have hkey : keyOf Try.prog 2 (.int .i64 x.ix) = some (.int .i64 x.ix) := Maps.keyOf_int_mk Try.underlying2 hxw
          clear hin hst hst2
          have hib : i < 1048577 := by have := HLn.out; omega
          have HIm := hide hD0.isMap
          have HRlt := hide hR.lt
          have HB := hide hbW
          have HI := hide hI
          have HM := hide hM
          have HR := hide hR
          have HAT := hide hat0
          have ba := below_alloc1 W (.cells #[] 83)
          have qa := hbW.below ba hbW.lt
          have ra0 := qa.c0
          have rai := qa.ci
          have ma1 : (W.alloc (.cells #[] 83)).cell? ⟨w1.heap.size + 1 + 1, 0, none⟩ = some (.map (some (w1.heap.size + 1))) := (ba.cell (p := ⟨w1.heap.size + 1 + 1, 0, none⟩) (by show w1.heap.size + 1 + 1 < _; omega)).trans m1
          clear hD0 hat0 hS qa ba
          gi_wp2_with (first
            | (gi_at_mapUpdate; refine wpListIn_mapUpdate_own _ rfl _ _ _ 79 rfl 2 83 (Maps.int_keyed Try.underlying2) Try.underlying79 _ (w1.heap.size + 1) i D0 rfl HD.out (by unfold maxLen; omega) _ _ _ rfl rfl hkey _ [] unitElem_mk ?_; intro w2 hown2 hg2; have k2 : Kept (fun c => c ≠ w1.heap.size + 1) W w2 := (Kept.alloc _ _ _).trans (Kept.grown hg2 (fun c e h => by cases e; exact h rfl)); have q2 := HB.out.kept k2 (by omega); have y0 := q2.c0; have yi := q2.ci; have g1 := (k2.cell (p := ⟨w1.heap.size, 0, none⟩) (by show w1.heap.size < _; omega) (by show w1.heap.size ≠ _; omega)).trans HI.out.1; have hz2 := k2.size; have HR2 := hide ((HR.out.kept k2 (fun c hc => by have := (HRlt.out c hc).1; omega)).alloc (.cells #[.int .i64 x.ix] 2)))
            | (gi_at_builtin; refine ir_stepIn 34 Try.underlying34 rfl _ _ rfl (w1.heap.size + 6) _ (.slice va vn vc) (accI (LL.take i)) x.ix ⟨w2.heap.size, 0, none⟩ rfl rfl (by simp; omega) HR2.out (cell_new w2 _ 2) hal ?_; intro b6 cap6 w6 hR6 hg6 hat6 hlt6; have k6 : Kept (fun c => (Value.slice va vn vc).ownBlock ≠ some c) w2 w6 := (Kept.alloc _ _ _).trans (Kept.grown hg6 (fun c e h => h e)); have hne1 : (Value.slice va vn vc).ownBlock ≠ some w1.heap.size := fun h => by { have := (HRlt.out _ h).1; omega }; have hI6 : w6.cell? ⟨w1.heap.size, 0, none⟩ = some (.slice va vn vc) := (k6.cell (p := ⟨w1.heap.size, 0, none⟩) (by show w1.heap.size < _; omega) hne1).trans g1; have hI6f : w6.frozen? ⟨w1.heap.size, 0, none⟩ = false := (k6.frozen (p := ⟨w1.heap.size, 0, none⟩) (by show w1.heap.size < _; omega) hne1).trans ((k2.frozen (p := ⟨w1.heap.size, 0, none⟩) (by show w1.heap.size < _; omega) (by show w1.heap.size ≠ _; omega)).trans HI.out.2.1))
            | fail)
          have hI := HI.out
          have hM := HM.out
          have hz6 := k6.size
          obtain ⟨W', hW'⟩ : ∃ W', w6.setCell ⟨w1.heap.size, 0, none⟩ (.slice (some ⟨b6, 0, none⟩) ((accI (LL.take i)).length + 1) cap6) = W' := ⟨_, rfl⟩
          have k7 : Kept (fun c => c ≠ w1.heap.size) w6 W' := by rw [← hW']; exact Kept.setCell _ _ _ _ (by simp)
          have s7 : W'.cell? ⟨w1.heap.size, 0, none⟩ = some (.slice (some ⟨b6, 0, none⟩) ((accI (LL.take i)).length + 1) cap6) := by rw [← hW']; exact World.cell?_setCell_same' _ _ _ (by rw [hI6]; rfl)
          have f7 : W'.frozen? ⟨w1.heap.size, 0, none⟩ = false := by rw [← hW', World.frozen?_setCell]; exact hI6f
          have hS : ∀ c, (O c ∨ c < w1.heap.size ∨ c = w1.heap.size + 1 + 1 + 1 + 1 + 1) → c ≠ w1.heap.size + 1 ∧ (Value.slice va vn vc).ownBlock ≠ some c ∧ c ≠ w1.heap.size := fun c hc => by
            rcases hc with hc | hc
            · exact ⟨fun e => hmO (e ▸ hc), fun e => hRO c e hc, fun e => hI.2.2.1 (e ▸ hc)⟩
            · refine ⟨by omega, fun e => ?_, by omega⟩
              have := (HRlt.out c e).1
              omega
          have kk : Kept (fun c => O c ∨ c < w1.heap.size ∨ c = w1.heap.size + 1 + 1 + 1 + 1 + 1) W W' :=
            ((k2.mono (fun c _ h => (hS c h).1)).trans (k6.mono (fun c _ h => (hS c h).2.1))).trans (k7.mono (fun c _ h => (hS c h).2.2))
          have hb : Below w1.heap.size w1 W' := Below.kept hI.2.2.2.1 kk (fun c hc => .inr (.inl hc)) (Nat.le_refl _)
          have hz7 := k7.size
          have hne2 : (Value.slice va vn vc).ownBlock ≠ some (w1.heap.size + 1 + 1) := fun h => by
            have := (HRlt.out _ h).1
            omega
          have hnem : (Value.slice va vn vc).ownBlock ≠ some (w1.heap.size + 1) := fun h => by
            have := (HRlt.out _ h).1
            omega
          have hb6 : w1.heap.size + 6 ≤ b6 := by
            rcases hat6 with h | h
            · exact (HRlt.out _ h).1
            · rw [h, World.size_alloc]; omega
          rw [hW']
          refine ⟨kk, some ⟨b6, 0, none⟩, (accI (LL.take i)).length + 1, cap6, ⟨s7, f7, hI.2.2.1, hb, hI.2.2.2.2⟩, ⟨?_, ?_, hM.2.2.1, hb, hM.2.2.2.2⟩, ⟨hmO, ?_⟩, ?_, fun c hc => ?_, by omega⟩
          · exact (k7.cell (p := ⟨w1.heap.size + 1 + 1, 0, none⟩) (by show w1.heap.size + 1 + 1 < _; omega) (by show w1.heap.size + 1 + 1 ≠ _; omega)).trans ((k6.cell (p := ⟨w1.heap.size + 1 + 1, 0, none⟩) (by show w1.heap.size + 1 + 1 < _; omega) hne2).trans ((k2.cell (p := ⟨w1.heap.size + 1 + 1, 0, none⟩) (by show w1.heap.size + 1 + 1 < _; omega) (by show w1.heap.size + 1 + 1 ≠ _; omega)).trans hM.1))
          · exact (k7.frozen (p := ⟨w1.heap.size + 1 + 1, 0, none⟩) (by show w1.heap.size + 1 + 1 < _; omega) (by show w1.heap.size + 1 + 1 ≠ _; omega)).trans ((k6.frozen (p := ⟨w1.heap.size + 1 + 1, 0, none⟩) (by show w1.heap.size + 1 + 1 < _; omega) hne2).trans ((k2.frozen (p := ⟨w1.heap.size + 1 + 1, 0, none⟩) (by show w1.heap.size + 1 + 1 < _; omega) (by show w1.heap.size + 1 + 1 ≠ _; omega)).trans hM.2.1))
          · rw [HAcc.out, HST.out]
            exact ((SM.put HIm.out HAT.out hown2).kept k6 hnem).kept k7 (by omega)
          · rw [HAcc.out, HST.out]
            exact hR6.kept k7 (fun c hc => by
              have : b6 = c := Option.some.inj hc
              omega)
          · have : b6 = c := Option.some.inj hc
            subst this
            intro ho
            rcases hat6 with h | h
            · exact hRO _ h ho
            · rw [World.size_alloc] at h
              have := (hNB _ ho).lt
              omega
      · have hkb : (x.k != 1) = true := by simp [hk1]
        have HO : Hid (Kept (fun b => O b ∨ b < w1.heap.size ∨ b = w1.heap.size + 1 + 1 + 1 + 1 + 1) W W ∧ FrI w1 LL (i + 1) O W) := by
          refine ⟨Kept.refl _ _, va, vn, vc, hI, hM, ⟨hmO, ?_⟩, ?_, hRO, hW6⟩
          · rw [HAcc.out, stepI, if_neg hk1]; exact hS.mono (by omega)
          · rw [HAcc.out, stepI, if_neg hk1]; exact hR
        clear hk1
        gi_wp2_with fail
        exact HO.out
    case done =>
      rintro D O W hD hOD hO ⟨va, vn, vc, hI, hM, ⟨hmO, hS⟩, hR, hRO, hW6⟩ hK
      obtain ⟨c1, c2, c3, c4, c5⟩ := id hI
      have hDc : D ≠ w1.heap.size := fun e => c3 (e ▸ hOD)
      have hacc : accI (LL.take (1 + ks.size)) = (Fo.cons k ix nm none 0 ks .nil).fre [] := by rw [← HLn.out, List.take_length]; exact HID.out
      rw [hacc] at hR
      have HR := hide hR
      clear hacc hS hR
      gi_wp2_with fail
      refine ⟨by simp, .inl ⟨_, _, rfl, run_takeDeferred hK, ?_⟩⟩
      refine ⟨_, results_tmp rfl _ _ _, .slice va vn vc, rfl, ?_, ?_⟩
      · exact (HR.out.kept (Kept.putObj (fun c => c ≠ D) _ _ _ (by simp)) (fun c hc e => hRO c hc (e ▸ hOD))).mono (by omega)
      · exact (HBW.out.trans (c4.mono (by omega))).trans (belowK_b (w := w) (Nat.le_refl _) _ D _ _ (by omega) hK rfl rfl)
    case stop =>
      rintro D c i O W _ _ _ _ h _
      exact h.elim
  · have hf : fltB k ix nm ks = true := by simp [fltB, hT]
    rw [hf] at HF
    have hids : idsOf k ix nm ks = [] := by unfold idsOf; rw [hf]; simp
    rw [hids]
    have HB0 := hide b0
    have hz0 : (w.alloc (.cells #[.int .i64 k, .int .i64 ix, .string nm, .slice a ks.len cap] 29)).heap.size = w.heap.size + 1 := by simp
    have HZ0 := hide hz0
    clear q0 b0 hids hf hz0
    refine callsIn_wide.2 ?_
    go_enter Try.func17, Try.ntmps17
    go_wp2_with fail
    refine HF.out.mono ?_
    rintro e w1 ⟨rfl, b1⟩
    go_wp2_with fail
    go_ret
    exact ⟨_, rfl, IR.nil _ _, HB0.out.trans (b1.mono (by rw [HZ0.out]; omega))⟩

theorem ifree (k ix : Int) (nm : ByteArray) (a : Option Addr) (cap : Nat) (ks : Fo) (w : World)
    (hk : (Lit.int .i64 k).wf = true) (hix : (Lit.int .i64 ix).wf = true) (hnm : nm.size ≤ maxLen) (hs : ks.Sl w (fun b => b < w.heap.size) a cap) (hsz : ks.size ≤ 1048576) :
    Calls Try.prog 17 #[nodeV k ix nm a ks.len cap] w fun e W' => ∃ v, e = .returned v ∧ IR w.heap.size W' v (idsOf k ix nm ks) ∧ Below w.heap.size w W' :=
  callsIn_wide.1 (ifree_in 5 (Nat.le_refl _) k ix nm a cap ks w hk hix hnm hs hsz)

end Go.Proofs.Ytjlefdalobgdfaa
