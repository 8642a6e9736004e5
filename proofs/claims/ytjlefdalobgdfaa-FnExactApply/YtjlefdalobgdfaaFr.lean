import Derived.Test.YtjlefdalobgdfaaIn
import Derived.Test.YtjlefdalobgdfaaTz
import Derived.Deep.DeepCutAuto
namespace Go.Proofs.Ytjlefdalobgdfaa
open Go.RowKit Go.Joins

theorem Kept.then {S T : Nat → Prop} {A B C : World} (h : Kept S A B) (k : Kept T B C) (hT : ∀ c, c < A.heap.size → S c → T c) : Kept S A C :=
  ⟨k.os.trans h.os, k.tape.trans h.tape, k.output.trans h.output, Nat.le_trans h.size k.size, fun c hc hs => (k.block c (Nat.lt_of_lt_of_le hc h.size) (hT c hc hs)).trans (h.block c hc hs)⟩

theorem IR.alloc {B : Nat} {w : World} {v : Value} {L : List Int} (h : IR B w v L) (o : Obj) : IR B (w.alloc o) v L := World.ownsRow.alloc h o
theorem cell_new (W : World) (x : Value) (t : TypeId) : (W.alloc (.cells #[x] t)).cell? ⟨W.heap.size, 0, none⟩ = some x := by simp

theorem Try.info2 : (Try.prog.info? 2).map (fun i => (i.zero, i.size, i.bytes)) = some (some (.int .i64 0), 1, 8) := by kernel_rfl
theorem heap_new (W : World) (o : Obj) : (W.alloc o).heap[W.heap.size]? = some o := (MapKept.heap_alloc W o).1

theorem run_ir (t ty : TypeId) (ht : Try.prog.underlying t = some (.slice 2)) (B : Nat) (W : World) (v : Value) (L : List Int) (x : Int) (ad : Addr) (hown : IR B W v L) (hx : W.cell? ad = some (iv x)) (hl : L.length ≤ 1048576) (hB : B ≤ W.heap.size) :
    ∃ b cap W', (Builtin.append_ #[t, t] ty #[v, .slice (some ad) 1 1]).run Try.prog W = .ok (.slice (some ⟨b, 0, none⟩) (L.length + 1) cap) W' ∧ IR B W' (.slice (some ⟨b, 0, none⟩) (L.length + 1) cap) (L ++ [x]) ∧ W.grownBy W' v.ownBlock ∧ (v.ownBlock = some b ∨ b = W.heap.size) ∧ b < W'.heap.size := by
  obtain ⟨i0, hi, hz0, hz1, hz2⟩ := info_parts Try.info2
  obtain ⟨b, cap, W', h1, h2, h3, h4, h5⟩ := run_append_lies (P := Try.prog) W t ty B 2 i0 (.int .i64 0) 1 8 ht hi hz0 hz1 hz2 rfl (by decide) v L.length (L.map iv) hown ad 1 1 [iv x] (by simp)
    (fun j u hj => by
      rcases j with _ | j
      · simp only [List.getElem?_cons_zero, Option.some.injEq] at hj
        subst hj
        have : ad.add 0 = ad := by unfold Addr.add; split <;> simp_all
        rw [this]; exact hx
      · simp at hj)
    (fun u hu => by simp only [List.mem_singleton] at hu; subst hu; rfl) (by decide) (by unfold maxLen; omega) (by omega) hB W.heap.size rfl
  refine ⟨b, cap, W', h1, ?_, h3, h4, h5⟩
  unfold IR
  rw [List.map_append, List.length_append]
  exact h2

theorem ir_step {ops : Array Oper} {rest : List Oper} {o : Oper} {a : Act} {Q : Exit → Act → World → Prop} (t : TypeId) (ht : Try.prog.underlying t = some (.slice 2)) (hgd : o.guard = none) (s x : Operand)
    (ho : o.op = .call { callee := .builtin .append, args := #[s, x], argTypes := #[t, t] })
    (B : Nat) (W : World) (v : Value) (L : List Int) (k : Int) (ad : Addr) (hs : a.eval s = v) (hx : a.eval x = .slice (some ad) 1 1) (hB : B ≤ W.heap.size) (hown : IR B W v L) (hk : W.cell? ad = some (iv k)) (hl : L.length ≤ 1048576)
    (h : ∀ b cap W', IR B W' (.slice (some ⟨b, 0, none⟩) (L.length + 1) cap) (L ++ [k]) → W.grownBy W' v.ownBlock → (v.ownBlock = some b ∨ b = W.heap.size) → b < W'.heap.size → wpList Try.prog ops Q rest (a.put o.dst (.slice (some ⟨b, 0, none⟩) (L.length + 1) cap)) W') : wpList Try.prog ops Q (o :: rest) a W := by
  refine wpList_plain hgd fun K hK => ?_
  obtain ⟨b, cap, w', hr, h2, h3, h4, h5⟩ := run_ir t o.type ht B W v L k ad hown hk hl hB
  unfold Oper.wp execOp
  simp only [ho, resolve, invoke, builtin, Sem.run_bind, Sem.run_pure, Result.andThen_ok, List.map_toArray, List.map_cons, List.map_nil, hs, hx, hr]
  exact hK _ _ (h b cap w' h2 h3 h4 h5)


/-- One number more, if it is not among them. -/
def addI (L : List Int) (x : Int) : List Int := if x ∈ L then L else L ++ [x]

/-- The variables of a row, each once, behind those that are known. -/
def Fo.fre : Fo → List Int → List Int
  | .nil, L => L
  | .cons k ix _ _ _ ks r, L => r.fre (if k = 1 then addI L ix else ks.fre L)

theorem addI_len (L : List Int) (x : Int) : (addI L x).length ≤ L.length + 1 := by
  unfold addI
  split
  · omega
  · simp

theorem Fo.fre_len : ∀ (F : Fo) (L : List Int), (F.fre L).length ≤ L.length + F.size
  | .nil, L => by simp [Fo.fre, Fo.size]
  | .cons k ix nm a cap ks r, L => by
    simp only [Fo.fre, Fo.size]
    have h1 := r.fre_len (if k = 1 then addI L ix else ks.fre L)
    have h2 := addI_len L ix
    have h3 := ks.fre_len L
    split at h1 <;> split <;> omega

/-- What the model's walk for variables answers. -/
def FrP (W W' : World) (B : Nat) (v : Value) (L : List Int) (e : Ending) : Prop :=
  ∃ v', e = .returned v' ∧ IR B W' v' L ∧ Kept (fun c => v.ownBlock ≠ some c) W W' ∧ (∀ c, v'.ownBlock = some c → v.ownBlock = some c ∨ W.heap.size < c)

set_option maxHeartbeats 2000000 in
set_option maxRecDepth 100000 in
theorem free_node : ∀ (m : Nat) (ks : Fo), ks.size < m → ∀ (k ix : Int) (nm : ByteArray) (n0 B : Nat) (W : World) (a : Option Addr) (cap : Nat) (v : Value) (L : List Int), n0 ≤ B → B ≤ W.heap.size → L.length + 1 + ks.size ≤ 1048576 →
    ks.Sl W (fun b => b < n0) a cap → IR B W v L →
    Calls Try.prog 49 #[nodeV k ix nm a ks.len cap, v] W fun e W' => FrP W W' B v ((Fo.cons k ix nm a cap ks .nil).fre L) e := by
  intro m
  induction m with
  | zero => intro F hF; omega
  | succ m ih =>
    intro ks hF k ix nm n0 B W a cap v L hn hB hlen hs hv
    obtain ⟨va, vc, rfl, hvc⟩ := hv.sl
    obtain ⟨n, hnn⟩ : ∃ n, n = L.length := ⟨_, rfl⟩
    rw [← hnn] at hv hlen hvc ⊢
    unfold nodeV
    have q0 := Box4.new W (.int .i64 k) (.int .i64 ix) (.string nm) (.slice a ks.len cap) 29
    have k0 : ∀ S, Kept S W (W.alloc (.cells #[.int .i64 k, .int .i64 ix, .string nm, .slice a ks.len cap] 29)) := fun S => Kept.alloc _ _ _
    have z0 : (W.alloc (.cells #[.int .i64 k, .int .i64 ix, .string nm, .slice a ks.len cap] 29)).heap.size = W.heap.size + 1 := by simp
    have HV := hide (hv.alloc (.cells #[.int .i64 k, .int .i64 ix, .string nm, .slice a ks.len cap] 29))
    have HLT := hide hv.lt
    have HN := hide hnn
    clear hv hnn
    by_cases hk : k = 1
    · subst hk
      have hfe : (Fo.cons 1 ix nm a cap ks .nil).fre L = addI L ix := by simp [Fo.fre]
      rw [hfe]
      have HK0 : Hid (Kept (fun _ => True) W (W.alloc (.cells #[.int .i64 1, .int .i64 ix, .string nm, .slice a ks.len cap] 29))) := k0 _
      have HZ0 := hide z0
      have HQ0 := hide q0
      clear hfe k0 z0 q0 ih
      go_enter Try.func49, Try.ntmps49
      go_wp2_with fail
      generalize W.alloc (.cells #[.int .i64 1, .int .i64 ix, .string nm, .slice a ks.len cap] 29) = W0 at *
      go_loopw [5] (fun s wr => ∃ i : Nat, s = .int .i64 i ∧ i ≤ n ∧ Hid (Kept (fun _ => True) W0 wr) ∧ Hid (∀ j, j < i → L[j]? ≠ some ix)) (fun s _ => n - (intOf s).toNat)
      case atStart => exact ⟨0, rfl, Nat.zero_le _, Kept.refl _ _, fun j hj => by omega⟩
      case round =>
        obtain ⟨i, rfl, hi, HK, HJ⟩ := hrel
        have q1 := HQ0.out.kept HK.out trivial
        obtain ⟨-, d0, di, d1, d2, -, -, -, -⟩ := id q1
        by_cases hlt : i < n
        · have hlt' : (i : Int) < n := by omega
          have hp : 0 < L.length := by rw [← HN.out]; omega
          obtain ⟨b1, c1, e1, -⟩ := HV.out.form2 hp
          simp only [Value.slice.injEq] at e1
          obtain ⟨rfl, -, rfl⟩ := e1
          have x1 := (HV.out.kept HK.out (fun _ _ => trivial)).cell HN.out i (by rw [← HN.out]; exact hlt)
          have HG : Hid (L[i]? = some (g L i)) := g_lt (by rw [← HN.out]; exact hlt)
          generalize g L i = y at x1 HG
          by_cases hy : y = ix
          · subst hy
            have hadd : addI L y = L := if_pos (List.mem_of_getElem? HG.out)
            have HA := hide hadd
            clear hadd
            go_wp2_with fail
            go_region
            all_goals
              go_wp2_with fail
              go_ret
              refine ⟨_, rfl, ?_, (HK0.out.trans (HK.out.trans (Kept.drew _ _))).mono (fun _ _ _ => trivial), fun c hc => .inl hc⟩
              rw [HA.out]
              exact HV.out.kept (HK.out.trans (Kept.drew _ _)) (fun _ _ => trivial)
          · have HJ2 : Hid (∀ j, j < i + 1 → L[j]? ≠ some ix) := fun j hj => by
              by_cases e : j = i
              · subst e; rw [HG.out]; simpa using hy
              · exact HJ.out j (by omega)
            go_wp2_with fail
            go_region
            all_goals
              go_wp2_with fail
              go_roundw
              case rel => exact ⟨i + 1, by go_num, by omega, HK.out.trans (Kept.drew _ _), HJ2⟩
              case measure => simp [intOf]; omega
        · have hlt' : ¬ (i : Int) < n := by omega
          obtain rfl : i = n := by omega
          have hadd : addI L ix = L ++ [ix] := if_neg (fun h => by
            obtain ⟨j, hj⟩ := List.getElem?_of_mem h
            have := (List.getElem?_eq_some_iff.1 hj).1
            exact HJ.out j (by have := HN.out; omega) hj)
          have HA := hide hadd
          have HVr : Hid (IR B (wr.alloc (.cells #[.int .i64 ix] 2)) (.slice va i vc) L) := (HV.out.kept HK.out (fun _ _ => trivial)).alloc _
          have hzr : W.heap.size + 1 ≤ wr.heap.size := by have := HK.out.size; have := HZ0.out; omega
          clear hadd
          go_wp2_with (at_builtin; refine ir_step 34 Try.underlying34 rfl _ _ rfl B _ (.slice va i vc) L ix ⟨wr.heap.size, 0, none⟩ rfl rfl (by simp; omega) HVr.out (cell_new wr _ 2) (by have := HN.out; omega) ?_; intro b6 cap6 w6 hR6 hg6 hat6 hlt6)
          go_ret
          refine ⟨.slice (some ⟨b6, 0, none⟩) (L.length + 1) cap6, rfl, ?_, ?_, ?_⟩
          · rw [HA.out]; exact hR6
          · exact ((HK0.out.trans HK.out).mono (fun _ _ _ => trivial)).trans ((Kept.alloc _ _ _).trans (Kept.grown hg6 (fun c e h => h e)))
          · intro c hc
            have hc' : b6 = c := Option.some.inj hc
            subst hc'
            rcases hat6 with h | h
            · exact .inl h
            · simp only [World.size_alloc] at h
              exact .inr (by omega)
    · have hfe : (Fo.cons k ix nm a cap ks .nil).fre L = ks.fre L := by simp [Fo.fre, hk]
      rw [hfe]
      have HIH := hide ih
      have HZ0 := hide z0
      have HQ0 := hide q0
      have HK0 : Hid (Kept (fun _ => True) W (W.alloc (.cells #[.int .i64 k, .int .i64 ix, .string nm, .slice a ks.len cap] 29))) := k0 _
      have HSL : Hid (ks.Sl (W.alloc (.cells #[.int .i64 k, .int .i64 ix, .string nm, .slice a ks.len cap] 29)) (fun b => b < n0) a cap) := hs.kept (k0 (fun _ => True)) (fun b x => ⟨trivial, by omega⟩)
      have hmx : ks.len ≤ 9223372036854775807 := by have h2 := hs.1; have h3 := hs.2.1; simp only [maxLen] at h3; omega
      have hkb : (k == 1) = false := by simpa using hk
      clear hfe k0 z0 q0 ih hs
      go_enter Try.func49, Try.ntmps49
      go_wp2_with fail
      generalize W.alloc (.cells #[.int .i64 k, .int .i64 ix, .string nm, .slice a ks.len cap] 29) = W0 at *
      go_loopw [1, 6] (fun s1 s6 wr => ∃ (i : Nat) (r : Fo) (M : List Int) (pa : Option Addr) (pn pc : Nat), s6 = .int .i64 i ∧ r.len + i = ks.len ∧ r.size ≤ ks.size ∧ Hid (r.fre M = ks.fre L) ∧ M.length + r.size ≤ n + ks.size ∧ s1 = .slice pa pn pc ∧ Hid (IR B wr (.slice pa pn pc) M) ∧ Hid (∀ c, (Value.slice pa pn pc).ownBlock = some c → (Value.slice va n vc).ownBlock = some c ∨ W.heap.size < c) ∧
        Hid (0 < r.len → ∃ b o, a = some ⟨b, o, none⟩ ∧ b < n0 ∧ r.Row wr (fun b => b < n0) b (o + i * 4)) ∧ Hid (Box4 wr W.heap.size (.int .i64 k) (.int .i64 ix) (.string nm) (.slice a ks.len cap)) ∧ Hid (Kept (fun c => (Value.slice va n vc).ownBlock ≠ some c) W wr) ∧ W.heap.size < wr.heap.size) (fun _ s6 _ => ks.len - (intOf s6).toNat)
      case atStart => exact ⟨0, ks, L, va, n, vc, rfl, rfl, Nat.le_refl _, rfl, by have := HN.out; omega, rfl, HV.out, fun c hc => .inl hc, HSL.out.2.2, HQ0.out, HK0.out.mono (fun _ _ _ => trivial), by have := HZ0.out; omega⟩
      case round =>
        obtain ⟨i, r, M, pa, pn, pc, rfl, hri, hrs, HF, hML, rfl, HR, HB, HRow, HQ, HK, hzr⟩ := hrel
        have q1 := HQ.out
        obtain ⟨-, d0, di, d1, d2, -, -, -, -⟩ := id q1
        clear q1
        cases r with
        | nil =>
          simp only [Fo.len] at hri
          have hlt' : ¬ (i : Int) < ks.len := by omega
          go_wp2_with fail
          go_ret
          refine ⟨_, rfl, ?_, HK.out, HB.out⟩
          have h1 := HF.out
          simp only [Fo.fre] at h1
          rw [← h1]
          exact HR.out
        | cons k' ix' nm' ka kcap ks' r =>
          simp only [Fo.len, Fo.size] at hri hrs hML
          obtain ⟨b, o, rfl, hb, hk', hix', hnm', c1, ci, c2, c3, h4, h5, h6, h7⟩ := HRow.out (by simp [Fo.len])
          have hlt' : (i : Int) < ks.len := by omega
          have hks : ks'.Sl wr (fun b => b < n0) ka kcap := ⟨h4, h5, h6⟩
          have HC := hide (HIH.out ks' (by omega) k' ix' nm' n0 B wr ka kcap (.slice pa pn pc) M hn (by omega) (by omega) hks HR.out)
          unfold nodeV at HC
          have H7 := hide h7
          clear hks h4 h5 h6 h7 hk' hix' hnm'
          go_wp2_with fail
          refine HC.out.mono ?_
          rintro e w1 ⟨v', rfl, r1, k1, b1⟩
          obtain ⟨qa, qc, rfl, -⟩ := r1.sl
          have hlen1 := (Fo.cons k' ix' nm' ka kcap ks' .nil).fre_len M
          simp only [Fo.size] at hlen1
          have HL1 := hide hlen1
          clear hlen1
          generalize ((Fo.cons k' ix' nm' ka kcap ks' .nil).fre M).length = qn at r1 b1 ⊢
          have hz1 := k1.size
          have HR1 := hide r1
          have hltB := HR.out.lt
          have HB1 : Hid (∀ c, (Value.slice qa qn qc).ownBlock = some c → (Value.slice va n vc).ownBlock = some c ∨ W.heap.size < c) := fun c hc => by
            rcases b1 c hc with h | h
            · exact HB.out c h
            · exact .inr (by omega)
          have HQ1 : Hid (Box4 w1 W.heap.size (.int .i64 k) (.int .i64 ix) (.string nm) (.slice (some ⟨b, o, none⟩) ks.len cap)) := HQ.out.kept k1 (fun h => by
            rcases HB.out _ h with h2 | h2
            · have := (HLT.out _ h2).2; omega
            · omega)
          have HK1 : Hid (Kept (fun c => (Value.slice va n vc).ownBlock ≠ some c) W w1) := HK.out.then k1 (fun c hc hne h => by
            rcases HB.out _ h with h2 | h2
            · exact hne h2
            · omega)
          have HF1 : Hid (r.fre ((Fo.cons k' ix' nm' ka kcap ks' .nil).fre M) = ks.fre L) := by
            unfold Hid
            rw [← HF.out]
            simp [Fo.fre]
          have HRow1 : Hid (r.Row w1 (fun b => b < n0) b (o + (i + 1) * 4)) := by
            have e : o + (i + 1) * 4 = o + i * 4 + 4 := by omega
            unfold Hid
            rw [e]
            refine H7.out.keep (fun _ x => x) (fun p hp v hv => (k1.cell (p := p) (by have : p.block < n0 := hp; omega) (fun h => ?_)).trans hv) (fun j _ _ v hv => (k1.cell (p := ⟨b, j, none⟩) (by show b < _; omega) (fun h => ?_)).trans hv)
            · have : p.block < n0 := hp
              have := (hltB _ h).1
              omega
            · have : B ≤ b := (hltB _ h).1
              omega
          clear r1 k1 b1 hltB HC H7
          go_wp2_with fail
          go_roundw
          case rel => exact ⟨i + 1, r, (Fo.cons k' ix' nm' ka kcap ks' .nil).fre M, qa, qn, qc, by go_num, by omega, by omega, HF1, by have := HL1.out; omega, rfl, HR1, HB1, fun _ => ⟨b, o, rfl, hb, HRow1.out⟩, HQ1, HK1, by omega⟩
          case measure => simp [intOf]; omega

end Go.Proofs.Ytjlefdalobgdfaa
