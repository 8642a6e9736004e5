import Derived.Test.YtjfoagmenehapaaNd
import Derived.RegionIn
import Derived.BigRegionIn
import Derived.Sort.CutIn
import Derived.Deep.AppendLies
import Derived.Deep.RegionHeld3
namespace Go.Proofs.Ytjfoagmenehapaa
open Go.RowKit Go.Shelf Go.Joins

attribute [local go_sem] Oper.semAt_some

/-- append onto a row of our own that is not nil, at a step of a region that draws. -/
theorem step_append_keep {P : Program} (w : World) {ops : Array Oper} {o : Oper} {a : Act} {K : Act → World → Prop} {Q : Exit → Act → World → Prop} {E : Prop} (hgd : o.guard = none) (s x : Operand) (t : TypeId)
    (ho : o.op = .call { callee := .builtin .append, args := #[s, x], argTypes := #[t, t] })
    (base : Nat) (e : TypeId) (i : TypeInfo) (z : Value) (size bytes : Nat) (ht : P.underlying t = some (.slice e)) (hi : P.info? e = some i) (hz : i.zero = some z)
    (hsize : i.size = size) (hby : i.bytes = bytes) (hzs : z.cells.size = size) (hsz : 0 < size)
    (g0 n c0 : Nat) (xs : List Value) (hs : a.eval s = .slice (some ⟨g0, 0, none⟩) n c0) (hown : w.ownsRow base e size (.slice (some ⟨g0, 0, none⟩) n c0) n xs)
    (ad : Addr) (m c : Nat) (news : List Value) (hx : a.eval x = .slice (some ad) m c) (hl : news.length = m * size) (hnews : ∀ j u, news[j]? = some u → w.cell? (ad.add j) = some u) (h1 : ∀ u ∈ news, u.oneCell' = true)
    (h63 : n + m ≤ maxLen) (hbytes : (n + m) * bytes ≤ 140737488355328) (hbase : base ≤ w.heap.size)
    (h : ∀ g cap w', w'.ownsRow base e size (.slice (some ⟨g, 0, none⟩) (n + m) cap) (n + m) (xs ++ news) → w.grownBy w' (some g0) → (g = g0 ∨ (w.heap.size ≤ g ∧ g < w'.heap.size)) → K (a.put o.dst (.slice (some ⟨g, 0, none⟩) (n + m) cap)) w') :
    if Region.wanted o (yielded ops a.tmps) = true then Oper.wp P o a w K Q else E := by
  have hw : Region.wanted o (yielded ops a.tmps) = true := by simp [Region.wanted, hgd]
  rw [if_pos hw]
  obtain ⟨v', w', hr, h2, h3, h4, h5⟩ := run_append_own_at (P := P) w base t o.type e i z size bytes ht hi hz hsize hby hzs hsz _ n xs hown ad m c news hl hnews h1 h63 hbytes hbase
  rcases h2.2 with ⟨h6, _⟩ | ⟨g, cap, cur, rfl, hb, hg, hr2⟩
  · have := (h4.1 h6).1
    simp at this
  · unfold Oper.wp execOp
    simp only [ho, resolve, invoke, builtin, Sem.run_bind, Sem.run_pure, Result.andThen_ok, List.map_toArray, List.map_cons, List.map_nil, hs, hx, hr]
    refine h g cap w' h2 h3 ?_
    simp only [Value.ownBlock, Option.some.injEq] at h5
    rcases h5 with h5 | h5
    · exact .inl h5
    · exact .inr ⟨by omega, (Array.getElem?_eq_some_iff.1 hg).1⟩

theorem Rw.nb {W : World} {B g c : Nat} {l : List Nd} (h : Rw W B g c l) : NB W g := by
  obtain ⟨cur, _, hg, _⟩ := Rw.parts h
  exact NB.cells hg (by decide)

theorem Rw.push {W : World} {B g c k : Nat} {l ns : List Nd} (h : W.ownsRow B 29 3 (.slice (some ⟨g, 0, none⟩) k c) k (l.reverse.flatMap Nd.cells ++ ns.flatMap Nd.cells)) (hk : l.length + ns.length = k) : Rw W B g c (ns.reverse ++ l) := by
  unfold Rw
  have e1 : (ns.reverse ++ l).length = k := by simp; omega
  have e2 : (ns.reverse ++ l).reverse.flatMap Nd.cells = l.reverse.flatMap Nd.cells ++ ns.flatMap Nd.cells := by simp
  rw [e1, e2]
  exact h

theorem zip_take (F G : Fo) : F.nds.zip G.nds = (F.nds.take (min F.len G.len)).zip (G.nds.take (min F.len G.len)) := by
  rw [List.zip_eq_zip_take_min, Fo.nds_length, Fo.nds_length]

theorem zip_fst (F G : Fo) {m : Nat} (hm : m = min F.len G.len) : (F.nds.zip G.nds).map (·.1) = F.nds.take m := by
  rw [zip_take, ← hm]
  exact List.map_fst_zip (by simp only [List.length_take, Fo.nds_length]; omega)

theorem zip_snd (F G : Fo) {m : Nat} (hm : m = min F.len G.len) : (F.nds.zip G.nds).map (·.2) = G.nds.take m := by
  rw [zip_take, ← hm]
  exact List.map_snd_zip (by simp only [List.length_take, Fo.nds_length]; omega)

/-- The k-th round's arguments. -/
def encs2 (L : List (Nd × Nd)) (d : Nd × Nd) (k : Nat) : Array Value := #[(L.getD k d).1.val, (L.getD k d).2.val]

/-- The walk through two trees at the head of its loop; m: what is left to do. -/
def PInv (J : Nat → (Nat → Prop) → World → Prop) (LL : List (Nd × Nd)) (n0 B : Nat) (v v' : Value) (wr : World) (m : Nat) : Prop :=
  ∃ (st : List (Nd × Nd)) (O : Nat → Prop) (i g c g' c' : Nat), v = .slice (some ⟨g, 0, none⟩) st.length c ∧ v' = .slice (some ⟨g', 0, none⟩) st.length c' ∧ m = (visS st).length ∧ Rw wr B g c (st.map (·.1)) ∧ Rw wr B g' c' (st.map (·.2)) ∧
    O g ∧ O g' ∧ g ≠ g' ∧ visS st = LL.drop i ∧ i ≤ LL.length ∧ J i O wr ∧ (∀ p ∈ st, p.1.Ok wr n0 ∧ p.2.Ok wr n0) ∧ B ≤ wr.heap.size ∧ ∀ b, O b → NB wr b

set_option maxRecDepth 100000 in
set_option maxHeartbeats 4000000 in
theorem pairs_seq (n : Nat) (hn : 1 ≤ n) (rb rc n0 : Nat) (x y : Nd) (w : World) (hn0 : n0 ≤ w.heap.size)
    (hbx : Box3 w rb (.int .i64 x.k) (.string x.nm) (.slice x.a x.F.len x.cap)) (hby : Box3 w rc (.int .i64 y.k) (.string y.nm) (.slice y.a y.F.len y.cap)) (hx : x.Ok w n0) (hy : y.Ok w n0) (hsz : x.F.size ≤ 1048576) :
    Seq (P := Try.prog) Fence.wide n 18 #[.pointer (some ⟨rb, 0, none⟩), .pointer (some ⟨rc, 0, none⟩)] (encs2 (visS [(x, y)]) (x, y)) (visS [(x, y)]).length n0 w := by
  intro l J Jx W hW hJ hJx hY h0
  obtain ⟨hbl, d0, d1, d2, -, -, -⟩ := hbx.below hW hbx.lt
  obtain ⟨hcl, e0, e1, e2, -, -, -⟩ := hby.below hW hby.lt
  have hzW := hW.size
  have hxW : x.Ok W n0 := ⟨hx.1.below hW (fun b z => by omega), hx.2⟩
  have hyW : y.Ok W n0 := ⟨hy.1.below hW (fun b z => by omega), hy.2⟩
  have hLL : (visS [(x, y)]).length ≤ 1048577 := by
    have := visL_len x.F y.F
    simp only [visS, List.length_cons, List.length_append, List.length_nil]
    omega
  have hfl0 : visS [(x, y)] = (visS [(x, y)]).drop 0 := rfl
  have hst0 : [(x, y)].length = 1 := rfl
  generalize hLLe : visS [(x, y)] = LL at hLL hfl0 hY ⊢
  refine callsIn_of_wp Try.func18 rfl trivial ?_ rfl
  simp only [Try.ntmps18, List.size_toArray, List.length_cons, List.length_nil, Nat.reduceAdd, Nat.reduceSub, Array.replicate_succ, Array.replicate_zero, List.push_toArray, List.append_toArray, List.nil_append, List.cons_append]
  have hstart : ∀ (W0 : World) (g g' : Nat), Rw W0 W.heap.size g 1 [x] → Rw W0 W.heap.size g' 1 [y] → g ≠ g' → (∀ S, Kept S W W0) → PInv J LL n0 W.heap.size (.slice (some ⟨g, 0, none⟩) 1 1) (.slice (some ⟨g', 0, none⟩) 1 1) W0 LL.length := by
    intro W0 g g' r1 r2 hne hK
    refine ⟨[(x, y)], fun b => b = g ∨ b = g', 0, g, 1, g', 1, rfl, rfl, by rw [hLLe], r1, r2, .inl rfl, .inr rfl, hne, hLLe, Nat.zero_le _, ?_, ?_, (hK (fun _ => True)).size, ?_⟩
    · exact hJ 0 _ _ _ _ h0 (hK _) (fun b z => .inr (by rcases z with rfl | rfl; exact r1.lt.1; exact r2.lt.1))
    · intro p hp
      simp only [List.mem_singleton] at hp
      subst hp
      exact ⟨hxW.kept (hK (fun _ => True)) (fun b z => ⟨trivial, by omega⟩), hyW.kept (hK (fun _ => True)) (fun b z => ⟨trivial, by omega⟩)⟩
    · rintro b (rfl | rfl)
      · exact r1.nb
      · exact r2.nb
  gi_wp2_with fail
  gi_cut [4, 5] from 100 (fun v v' wr => PInv J LL n0 W.heap.size v v' wr LL.length)
  case first =>
    rename_i J1 K1 hRJ hMK
    gi_region
    all_goals refine hMK _ _ (Met.intro (hRJ _ _ ⟨_, _, _, _, _, _, ?_, rfl⟩))
    · refine hstart _ _ _ ((Rw.one W W.heap.size (Nat.le_refl _) x).kept (S := fun _ => True) ?_ trivial) ?_ (by omega) ?_
      · exact (Kept.alloc _ _ _).trans (Kept.drew _ _)
      · have := Rw.one (W.alloc (.cells #[.int .i64 x.k, .string x.nm, .slice x.a x.F.len x.cap] 29)) W.heap.size (by simp) y
        rw [World.size_alloc] at this
        exact this.kept (Kept.drew (fun _ => True) _) trivial
      · exact fun S => ((Kept.alloc _ _ _).trans (Kept.alloc _ _ _)).trans (Kept.drew _ _)
    · refine hstart _ _ _ ?_ ((Rw.one W W.heap.size (Nat.le_refl _) y).kept (S := fun _ => True) ?_ trivial) (by omega) ?_
      · have := Rw.one (W.alloc (.cells #[.int .i64 y.k, .string y.nm, .slice y.a y.F.len y.cap] 29)) W.heap.size (by simp) x
        rw [World.size_alloc] at this
        exact this.kept (Kept.drew (fun _ => True) _) trivial
      · exact (Kept.alloc _ _ _).trans (Kept.drew _ _)
      · exact fun S => ((Kept.alloc _ _ _).trans (Kept.alloc _ _ _)).trans (Kept.drew _ _)
  case rest =>
    clear hstart hfl0 hst0
    gi_wp2_with fail
    gi_loopw [4, 5] (fun v v' wr => ∃ m, PInv J LL n0 W.heap.size v v' wr m) (fun v v' wr => least (PInv J LL n0 W.heap.size v v' wr))
    case atStart => exact ⟨_, hcut⟩
    case round =>
      have hmin := least_spec hrel
      clear hrel hcut
      obtain ⟨st, O, i, g, c, g', c', hv, hv', hMe, hr1, hr2, hO1, hO2, hgg, hfl, hi, hJi, hoks, hzr, hOb⟩ := hmin
      subst hv hv'
      have HM : Hid (least (PInv J LL n0 W.heap.size (.slice (some ⟨g, 0, none⟩) st.length c) (.slice (some ⟨g', 0, none⟩) st.length c') wr) = (visS st).length) := hMe
      clear hMe
      have hmx : maxLen = 9223372036854775807 := rfl
      have hn0B : n0 ≤ W.heap.size := Nat.le_trans hn0 hzW
      cases st with
      | nil =>
        simp only [List.length_nil]
        gi_wp2_with fail
        go_end0
        have e : i = LL.length := by
          have := congrArg List.length hfl
          simp [visS] at this
          omega
        exact ⟨⟨_, rfl⟩, .inl ⟨O, by rw [← e]; exact hJi⟩⟩
      | cons p st =>
        obtain ⟨x, y⟩ := p
        simp only [List.length_cons] at HM ⊢
        obtain ⟨okx, oky⟩ := hoks _ (List.mem_cons_self)
        simp only [List.map_cons] at hr1 hr2
        obtain ⟨a0, a1, a2⟩ := hr1.top
        obtain ⟨b0, b1, b2⟩ := hr2.top
        simp only [List.length_map] at a0 a1 a2 b0 b1 b2
        have hl1 := hr1.lt
        have hl2 := hr2.lt
        have hstl : st.length + 1 ≤ 1048577 := by
          have h1 := visS_len ((x, y) :: st)
          have h2 := congrArg List.length hfl
          simp only [List.length_cons, List.length_drop] at h1 h2
          omega
        have hg1 := hl1.2
        have hg2 := hl2.2
        gi_wp2_with fail
        gi_cut [7, 8] from 100 (fun s7 s8 wc => ∃ bx bz, s7 = .pointer (some ⟨bx, 0, none⟩) ∧ s8 = .pointer (some ⟨bz, 0, none⟩) ∧ bx ≠ bz ∧ wr.heap.size ≤ bx ∧ wr.heap.size ≤ bz ∧
          Box3 wc bx (.int .i64 x.k) (.string x.nm) (.slice x.a x.F.len x.cap) ∧ Box3 wc bz (.int .i64 y.k) (.string y.nm) (.slice y.a y.F.len y.cap) ∧ Kept (fun _ => True) wr wc ∧ NB wc bx ∧ NB wc bz)
        case first =>
          rename_i J1 K1 hRJ hMK
          gi_region
          all_goals refine hMK _ _ (Met.intro (hRJ _ _ ⟨_, _, _, _, _, _, _, _, _, _, ?_, rfl⟩))
          · refine ⟨_, _, rfl, rfl, by omega, by omega, by omega, ?_, ?_, ((Kept.alloc _ _ _).trans (Kept.alloc _ _ _)).trans (Kept.drew _ _), ?_, ?_⟩
            rotate_left 2
            · exact ((NB.new wr _ _ (by decide)).kept (Kept.alloc (fun _ => True) _ _) trivial).kept (Kept.drew (fun _ => True) _) trivial
            · have := (NB.new (wr.alloc (.cells #[.int .i64 x.k, .string x.nm, .slice x.a x.F.len x.cap] 29)) #[.int .i64 y.k, .string y.nm, .slice y.a y.F.len y.cap] 29 (by decide)).kept (Kept.drew (fun _ => True) _) trivial
              rwa [World.size_alloc] at this
            · exact ((Box3.new wr _ _ _ 29).alloc _).kept (Kept.drew (fun _ => True) _) trivial
            · have := (Box3.new (wr.alloc (.cells #[.int .i64 x.k, .string x.nm, .slice x.a x.F.len x.cap] 29)) (.int .i64 y.k) (.string y.nm) (.slice y.a y.F.len y.cap) 29).kept (Kept.drew (fun _ => True) _) trivial
              rw [World.size_alloc] at this
              exact this
          · refine ⟨_, _, rfl, rfl, by omega, by omega, by omega, ?_, ?_, ((Kept.alloc _ _ _).trans (Kept.alloc _ _ _)).trans (Kept.drew _ _), ?_, ?_⟩
            rotate_left 2
            · have := (NB.new (wr.alloc (.cells #[.int .i64 y.k, .string y.nm, .slice y.a y.F.len y.cap] 29)) #[.int .i64 x.k, .string x.nm, .slice x.a x.F.len x.cap] 29 (by decide)).kept (Kept.drew (fun _ => True) _) trivial
              rwa [World.size_alloc] at this
            · exact ((NB.new wr _ _ (by decide)).kept (Kept.alloc (fun _ => True) _ _) trivial).kept (Kept.drew (fun _ => True) _) trivial
            · have := (Box3.new (wr.alloc (.cells #[.int .i64 y.k, .string y.nm, .slice y.a y.F.len y.cap] 29)) (.int .i64 x.k) (.string x.nm) (.slice x.a x.F.len x.cap) 29).kept (Kept.drew (fun _ => True) _) trivial
              rw [World.size_alloc] at this
              exact this
            · exact ((Box3.new wr _ _ _ 29).alloc _).kept (Kept.drew (fun _ => True) _) trivial
        case rest =>
          obtain ⟨W0c, hW0c⟩ : ∃ W0c, W0c = wc := ⟨_, rfl⟩
          subst hW0c
          obtain ⟨bx, bz, rfl, rfl, hbn, hbx1, hbz1, qx, qz, kc, nbx, nbz⟩ := hcut
          have hkz := kc.size
          have hLi : LL[i]? = some (x, y) := by
            have : LL[i]? = (LL.drop i)[0]? := by simp
            rw [this, ← hfl]
            simp [visS]
          have hil : i < LL.length := (List.getElem?_eq_some_iff.1 hLi).1
          have hJ2 : J i (fun b => O b ∨ (b = bx ∨ b = bz)) W0c := hJ i O _ wr W0c hJi (kc.mono (fun _ _ _ => trivial)) (fun b z => z.imp_right (fun e => by rcases e with rfl | rfl <;> assumption))
          have hYn : YieldAt Fence.wide (n - 1) Try.prog l #[.agg #[.int .i64 x.k, .string x.nm, .slice x.a x.F.len x.cap], .agg #[.int .i64 y.k, .string y.nm, .slice y.a y.F.len y.cap]] W0c
              fun e W' => (e = .returned (.bool true) ∧ Box3 W' bx (.int .i64 x.k) (.string x.nm) (.slice x.a x.F.len x.cap) ∧ Box3 W' bz (.int .i64 y.k) (.string y.nm) (.slice y.a y.F.len y.cap) ∧
                Rw W' W.heap.size g c (x :: st.map (·.1)) ∧ Rw W' W.heap.size g' c' (y :: st.map (·.2)) ∧ J (i + 1) (fun b => O b ∨ (b = bx ∨ b = bz)) W' ∧
                x.Ok W' n0 ∧ y.Ok W' n0 ∧ (∀ p ∈ st, p.1.Ok W' n0 ∧ p.2.Ok W' n0) ∧ W0c.heap.size ≤ W'.heap.size) ∨ (e = .returned (.bool false) ∧ ∃ O, Jx i O W') := by
            have hOb2 : ∀ b, (O b ∨ (b = bx ∨ b = bz)) → NB W0c b := fun b z => by
              rcases z with z | rfl | rfl
              · exact (hOb b z).kept kc trivial
              · exact nbx
              · exact nbz
            obtain ⟨fn, tmps, assign, body, hy, hR⟩ := hY i _ W0c hil hOb2 hJ2
            have hE : ∀ d, encs2 LL d i = #[.agg #[.int .i64 x.k, .string x.nm, .slice x.a x.F.len x.cap], .agg #[.int .i64 y.k, .string y.nm, .slice y.a y.F.len y.cap]] := by
              intro d
              unfold encs2
              rw [List.getD_eq_getElem?_getD, hLi]
              rfl
            rw [hE] at hy
            refine ⟨fn, tmps, assign, body, hy, hR.mono ?_⟩
            rintro e W' ⟨hK, (⟨rfl, hj⟩ | ⟨rfl, hj⟩)⟩
            · have hlift : ∀ z : Nd, z.Ok wr n0 → z.Ok W' n0 := fun z hz => (hz.kept kc (fun b hb => ⟨trivial, by omega⟩)).kept hK (fun b hb => ⟨.inr hb, by omega⟩)
              exact .inl ⟨rfl, qx.kept hK (.inl (.inr (.inl rfl))), qz.kept hK (.inl (.inr (.inr rfl))), (Rw.kept hr1 kc trivial).kept hK (.inl (.inl hO1)), (Rw.kept hr2 kc trivial).kept hK (.inl (.inl hO2)), hj,
                hlift _ okx, hlift _ oky, fun p hp => ⟨hlift _ (hoks p (List.mem_cons_of_mem _ hp)).1, hlift _ (hoks p (List.mem_cons_of_mem _ hp)).2⟩, hK.size⟩
            · exact .inr ⟨rfl, _, hj⟩
          obtain ⟨fn, tmps, assign, body, hy, hR⟩ := hYn
          obtain ⟨-, x0, x1, x2, -, -, -⟩ := qx
          obtain ⟨-, y0, y1, y2, -, -, -⟩ := qz
          gi_wp2_with fail
          refine hR.mono ?_
          rintro e W3 (⟨rfl, qx3, qz3, r3, t3, hj3, ox3, oy3, os3, hz3⟩ | ⟨rfl, O', hj'⟩)
          · clear hR hy x0 x1 x2 y0 y1 y2
            obtain ⟨lx3, x0, x1, x2, -, -, -⟩ := id qx3
            obtain ⟨lz3, y0, y1, y2, -, -, -⟩ := id qz3
            have hmx1 : x.F.len ≤ x.cap ∧ x.cap ≤ 9223372036854775807 := ⟨ox3.1.1, by have := ox3.1.2.1; omega⟩
            have hmy1 : y.F.len ≤ y.cap ∧ y.cap ≤ 9223372036854775807 := ⟨oy3.1.1, by have := oy3.1.2.1; omega⟩
            gi_upto_region 5 with fail
            gi_cut [9] from 100 (fun s9 wd => ∃ m : Nat, s9 = .int .i64 m ∧ Hid (m = min x.F.len y.F.len) ∧ wd = W3)
            case first =>
              rename_i J1 K1 hRJ hMK
              gi_wp2_with fail
              all_goals refine Met.intro (hRJ _ _ ⟨_, _, _, _, _, _, _, _, ?_, rfl⟩)
              · exact ⟨y.F.len, rfl, by unfold Hid; omega, rfl⟩
              · exact ⟨x.F.len, rfl, by unfold Hid; omega, rfl⟩
            case rest =>
              obtain ⟨m, rfl, Hm, hwc⟩ := hcut
              have hwc' := hwc.symm
              subst hwc'
              have hm1 : m ≤ x.F.len := by have := Hm.out; omega
              have hm2 : m ≤ y.F.len := by have := Hm.out; omega
              obtain ⟨ax, hax⟩ := Option.isSome_iff_exists.1 ox3.2.1
              obtain ⟨az, haz⟩ := Option.isSome_iff_exists.1 oy3.2.1
              have hnx : ∀ (w' : World), Kept (fun b => b < n0) W3 w' → ∀ j u, ((x.F.nds.take m).flatMap Nd.cells)[j]? = some u → w'.cell? (ax.add j) = some u := by
                intro w' hK j u hu
                have hp : 0 < x.F.len := by
                  rcases Nat.eq_zero_or_pos x.F.len with h | h
                  · have : m = 0 := by omega
                    subst this
                    simp at hu
                  · exact h
                obtain ⟨b, o, e, hb, hR⟩ := ox3.1.2.2 hp
                rw [hax] at e
                cases e
                rw [addr_add]
                exact (hK.cell (p := ⟨b, o + j, none⟩) (by show b < W3.heap.size; omega) hb).trans (hR.flat m j u hu)
              have hny : ∀ (w' : World), Kept (fun b => b < n0) W3 w' → ∀ j u, ((y.F.nds.take m).flatMap Nd.cells)[j]? = some u → w'.cell? (az.add j) = some u := by
                intro w' hK j u hu
                have hp : 0 < y.F.len := by
                  rcases Nat.eq_zero_or_pos y.F.len with h | h
                  · have : m = 0 := by omega
                    subst this
                    simp at hu
                  · exact h
                obtain ⟨b, o, e, hb, hR⟩ := oy3.1.2.2 hp
                rw [haz] at e
                cases e
                rw [addr_add]
                exact (hK.cell (p := ⟨b, o + j, none⟩) (by show b < W3.heap.size; omega) hb).trans (hR.flat m j u hu)
              rw [hax] at x2
              rw [haz] at y2
              have HNX := hide hnx
              have HNY := hide hny
              clear hnx hny
              obtain ⟨i0, hi0, hz0, hz1, hz2⟩ := info_parts Try.info29
              have hlx : (x.F.nds.take m).length = m := by rw [List.length_take, Fo.nds_length]; omega
              have hly : (y.F.nds.take m).length = m := by rw [List.length_take, Fo.nds_length]; omega
              have hfl2 : visS ((x.F.nds.zip y.F.nds).reverse ++ st) = LL.drop (i + 1) := by
                rw [visS_push, ← List.drop_drop (i := 1) (j := i), ← hfl]
                simp [visS]
              have hstl2 : ((x.F.nds.zip y.F.nds).reverse ++ st).length = st.length + m := by
                have := Hm.out
                simp only [List.length_append, List.length_reverse, List.length_zip, Fo.nds_length]
                omega
              have hbnd : st.length + m ≤ 1048577 := by
                have h1 := visS_len ((x.F.nds.zip y.F.nds).reverse ++ st)
                rw [hfl2, hstl2, List.length_drop] at h1
                omega
              have HF2 := hide hfl2
              have HL2 := hide hstl2
              clear hfl2 hstl2
              gi_wp2_with fail
              gi_cut [4] from 100 (fun s4 wd => ∃ g1 c1 : Nat, s4 = .slice (some ⟨g1, 0, none⟩) (st.length + m) c1 ∧ Rw wd W.heap.size g1 c1 ((x.F.nds.take m).reverse ++ st.map (·.1)) ∧ Kept (fun b => b ≠ g) W3 wd ∧ (g1 = g ∨ (W3.heap.size ≤ g1 ∧ g1 < wd.heap.size)))
              case first =>
                rename_i J1 K1 hRJ hMK
                have HO : W3.drew.ownsRow W.heap.size 29 3 (.slice (some ⟨g, 0, none⟩) st.length c) st.length ((st.map (·.1)).reverse.flatMap Nd.cells) := by
                  have := (Rw.pop r3).kept (Kept.drew (fun _ => True) _) trivial
                  unfold Rw at this
                  rwa [List.length_map] at this
                have hbg : bx ≠ g := by omega
                have hcc : st.length + 1 ≤ c := by
                  obtain ⟨_, _, _, h, _⟩ := Rw.parts r3
                  simpa using h
                have i1 : (0 : Int) ≤ (st.length : Int) := by omega
                have i2 : (st.length : Int) ≤ (c : Int) := by omega
                have i3 : (0 : Int) ≤ (m : Int) := by omega
                have i4 : (m : Int) ≤ (x.cap : Int) := by omega
                have hzc : W.heap.size ≤ W3.drew.heap.size := by show W.heap.size ≤ W3.heap.size; omega
                refine wpIn_wide.2 ?_
                go_region_held3 (fun w' => w'.cell? ⟨bx, 2, none⟩ = some (.slice (some ax) x.F.len x.cap))
                  (first | exact x2 | exact k6)
                  (first
                    | (refine step_append_keep _ rfl _ _ 27 rfl W.heap.size 29 i0 (.agg #[.int .i64 0, .string ⟨#[]⟩, .slice none 0 0]) 3 48 Try.underlying27 hi0 hz0 hz1 hz2 rfl (by decide) g st.length c _ rfl HO ax m x.cap ((x.F.nds.take m).flatMap Nd.cells) rfl (by rw [flat_length, hlx]) (HNX.out _ (Kept.drew _ _)) (fun u hu => flat_one hu) (by omega) (by omega) hzc ?_; intro g1 c1 w1 ho1 hgr1 ha1; have k6 := hgr1.cell (a := ⟨bx, 2, none⟩) x2 (by simp; omega)))
                all_goals
                  refine hMK _ _ (Met.intro (hRJ _ _ ⟨_, _, _, _, _, _, _, _, _, ?_, rfl⟩))
                  exact ⟨g1, c1, rfl, Rw.push ho1 (by rw [List.length_map, hlx]), (Kept.drew _ _).trans (Kept.grown hgr1 (fun k e h => by cases e; exact h rfl)), ha1⟩
              case rest =>
                obtain ⟨g1, c1, rfl, r4, k4, hg4⟩ := hcut
                have z4 := k4.size
                have hbg : bz ≠ g := by omega
                have y2' := (k4.cell (p := ⟨bz, 2, none⟩) lz3 hbg).trans y2
                have t4 := Rw.kept t3 k4 (Ne.symm hgg)
                have lz4 : bz < wc.heap.size := by omega
                have HNY' : Hid (∀ j u, ((y.F.nds.take m).flatMap Nd.cells)[j]? = some u → wc.drew.cell? (az.add j) = some u) :=
                  HNY.out _ ((k4.mono (fun b _ hb => by show b ≠ g; omega)).trans (Kept.drew _ _))
                clear y0 y1 y2 x0 x1 x2 HNX HNY
                gi_wp2_with fail
                have HO : wc.drew.ownsRow W.heap.size 29 3 (.slice (some ⟨g', 0, none⟩) st.length c') st.length ((st.map (·.2)).reverse.flatMap Nd.cells) := by
                  have := (Rw.pop t4).kept (Kept.drew (fun _ => True) _) trivial
                  unfold Rw at this
                  rwa [List.length_map] at this
                have hbg' : bz ≠ g' := by omega
                have hcc : st.length + 1 ≤ c' := by
                  obtain ⟨_, _, _, h, _⟩ := Rw.parts t4
                  simpa using h
                have i1 : (0 : Int) ≤ (st.length : Int) := by omega
                have i2 : (st.length : Int) ≤ (c' : Int) := by omega
                have i3 : (0 : Int) ≤ (m : Int) := by omega
                have i4 : (m : Int) ≤ (y.cap : Int) := by omega
                have hzc : W.heap.size ≤ wc.drew.heap.size := by show W.heap.size ≤ wc.heap.size; omega
                have fin : ∀ (g2 c2 : Nat) (w1 : World), w1.ownsRow W.heap.size 29 3 (.slice (some ⟨g2, 0, none⟩) (st.length + m) c2) (st.length + m) ((st.map (·.2)).reverse.flatMap Nd.cells ++ (y.F.nds.take m).flatMap Nd.cells) →
                    wc.drew.grownBy w1 (some g') → (g2 = g' ∨ (wc.drew.heap.size ≤ g2 ∧ g2 < w1.heap.size)) →
                    PInv J LL n0 W.heap.size (.slice (some ⟨g1, 0, none⟩) (st.length + m) c1) (.slice (some ⟨g2, 0, none⟩) (st.length + m) c2) w1 (visS ((x.F.nds.zip y.F.nds).reverse ++ st)).length := by
                  intro g2 c2 w1 ho1 hgr1 ha1
                  replace ha1 : g2 = g' ∨ (wc.heap.size ≤ g2 ∧ g2 < w1.heap.size) := ha1
                  have k5 : Kept (fun b => b ≠ g') wc w1 := (Kept.drew _ _).trans (Kept.grown hgr1 (fun k e h => by cases e; exact h rfl))
                  have z5 := k5.size
                  have r5 : Rw w1 W.heap.size g2 c2 ((y.F.nds.take m).reverse ++ st.map (·.2)) := Rw.push ho1 (by rw [List.length_map, hly])
                  have l4 := r4.lt
                  have l5 := r5.lt
                  have hg1' : g1 ≠ g' := by
                    rcases hg4 with e | e
                    · rw [e]; exact hgg
                    · omega
                  have r4' := Rw.kept r4 k5 hg1'
                  have h12 : g1 ≠ g2 := by
                    rcases ha1 with e | e
                    · rw [e]; exact hg1'
                    · omega
                  have kO : Kept (fun b => ¬ (O b ∨ (b = bx ∨ b = bz))) W3 w1 :=
                    (k4.mono (fun b _ hb e => hb (.inl (e ▸ hO1)))).trans (k5.mono (fun b _ hb e => hb (.inl (e ▸ hO2))))
                  have hlift : ∀ z : Nd, z.Ok W3 n0 → z.Ok w1 n0 := fun z hz =>
                    (hz.kept k4 (fun b hb => ⟨by show b ≠ g; omega, by omega⟩)).kept k5 (fun b hb => ⟨by show b ≠ g'; omega, by omega⟩)
                  refine ⟨(x.F.nds.zip y.F.nds).reverse ++ st, fun b => b = g1 ∨ b = g2, i + 1, g1, c1, g2, c2, by rw [HL2.out], by rw [HL2.out], rfl, ?_, ?_, .inl rfl, .inr rfl, h12, HF2.out, by omega,
                    hJ _ _ _ _ _ hj3 kO ?_, ?_, by omega, ?_⟩
                  · rw [List.map_append, List.map_reverse, zip_fst _ _ Hm.out]; exact r4'
                  · rw [List.map_append, List.map_reverse, zip_snd _ _ Hm.out]; exact r5
                  · intro b hb
                    rcases hb with rfl | rfl
                    · rcases hg4 with e | e
                      · exact .inl (.inl (e ▸ hO1))
                      · exact .inr e.1
                    · rcases ha1 with e | e
                      · exact .inl (.inl (e ▸ hO2))
                      · exact .inr (by omega)
                  · intro p hp
                    rcases List.mem_append.1 hp with hp | hp
                    · rw [List.mem_reverse] at hp
                      obtain ⟨p1, p2⟩ := List.of_mem_zip hp
                      have hpx : 0 < x.F.len := by rw [← Fo.nds_length]; exact List.length_pos_of_mem p1
                      have hpy : 0 < y.F.len := by rw [← Fo.nds_length]; exact List.length_pos_of_mem p2
                      obtain ⟨_, _, _, _, hRx⟩ := ox3.1.2.2 hpx
                      obtain ⟨_, _, _, _, hRy⟩ := oy3.1.2.2 hpy
                      exact ⟨hlift _ (Fo.nds_ok hRx ox3.2.2 _ p1), hlift _ (Fo.nds_ok hRy oy3.2.2 _ p2)⟩
                    · exact ⟨hlift _ (os3 p hp).1, hlift _ (os3 p hp).2⟩
                  · rintro b (rfl | rfl)
                    · exact r4'.nb
                    · exact r5.nb
                have FIN := hide fin
                clear fin
                refine wpIn_wide.2 ?_
                go_region_held3 (fun w' => w'.cell? ⟨bz, 2, none⟩ = some (.slice (some az) y.F.len y.cap))
                  (first | exact y2' | exact k6)
                  (first
                    | (refine step_append_keep _ rfl _ _ 27 rfl W.heap.size 29 i0 (.agg #[.int .i64 0, .string ⟨#[]⟩, .slice none 0 0]) 3 48 Try.underlying27 hi0 hz0 hz1 hz2 rfl (by decide) g' st.length c' _ rfl HO az m y.cap ((y.F.nds.take m).flatMap Nd.cells) rfl (by rw [flat_length, hly]) HNY'.out (fun u hu => flat_one hu) (by omega) (by omega) hzc ?_; intro g2 c2 w1 ho1 hgr1 ha1; have k6 := hgr1.cell (a := ⟨bz, 2, none⟩) y2' (by simp; omega)))
                all_goals
                  gi_wp2_with fail
                  refine ⟨⟨_, FIN.out g2 c2 w1 ho1 hgr1 ha1⟩, ?_⟩
                  rw [HM.out]
                  refine Nat.lt_of_le_of_lt (least_le (FIN.out g2 c2 w1 ho1 hgr1 ha1)) ?_
                  rw [HF2.out, hfl, List.length_drop, List.length_drop]
                  omega
          · gi_wp2_with fail
            refine bodyPost_ret (results_none rfl _ _ _) rfl ?_
            exact ⟨⟨_, rfl⟩, .inr ⟨i, O', hil, hj'⟩⟩

end Go.Proofs.Ytjfoagmenehapaa
