import Derived.Test.YtjfoagmenehapaaGreatDoorQ33
import Derived.Test.YtjfoagmenehapaaGreatDoorQ18
namespace Go.Proofs.YtjfoagmenehapaaGreatDoor.Tree
open Go.RowKit Go.Shelf Go.Joins

attribute [local go_sem] Oper.semAt_some

/-- All the nodes, each ahead of its kids. -/
def Fo.nodes : Fo → List Kn
  | .nil => []
  | .cons k nm a cap ks r => ⟨k, nm, a, cap, ks⟩ :: (ks.nodes ++ r.nodes)

def Kn.v (x : Kn) : Value := nodeV x.k x.nm x.a x.ks.len x.cap

theorem Fo.pre_nodes : ∀ (F : Fo) (d : Nat), (F.pre d).map Prod.snd = F.nodes.map Kn.v
  | .nil, _ => rfl
  | .cons k nm a cap ks r, d => by
    simp only [Fo.pre, Fo.nodes, List.map_cons, List.map_append, ks.pre_nodes, r.pre_nodes]
    rfl

/-- What a node of the row has. -/
def KnOk (W : World) (S : Nat → Prop) (x : Kn) : Prop := x.nm.size ≤ maxLen ∧ x.ks.Sl W S x.a x.cap

theorem Fo.Row.nodes {W : World} {S : Nat → Prop} : ∀ {F : Fo} {b o : Nat}, F.Row W S b o → ∀ x, x ∈ F.nodes → KnOk W S x
  | .nil, _, _, _, x, hx => by cases hx
  | .cons k nm a cap ks r, b, o, ⟨_, hn, _, _, _, h4, h5, h6, h7⟩, x, hx => by
    simp only [Fo.nodes, List.mem_cons, List.mem_append] at hx
    rcases hx with rfl | hx | hx
    · exact ⟨hn, h4, h5, h6⟩
    · by_cases hl : 0 < ks.len
      · obtain ⟨b', o', _, _, hr⟩ := h6 hl
        exact hr.nodes x hx
      · cases ks with
        | nil => cases hx
        | cons _ _ _ _ _ _ => exact absurd (Nat.succ_pos _) hl
    · exact h7.nodes x hx

theorem Fo.Sl.nodes {W : World} {S : Nat → Prop} {a : Option Addr} {cap : Nat} {F : Fo} (h : F.Sl W S a cap) : ∀ x, x ∈ F.nodes → KnOk W S x := fun x hx => by
  by_cases hl : 0 < F.len
  · obtain ⟨b', o', _, _, hr⟩ := h.2.2 hl
    exact hr.nodes x hx
  · cases F with
    | nil => cases hx
    | cons _ _ _ _ _ _ => exact absurd (Nat.succ_pos _) hl

/-- What the program asks of a node. -/
def okI (x : Kn) : Bool := nmF x.k x.nm (x.ks.len == 0) && kidsI x.k x.ks.list

def FltI (w : World) (mb nb : Nat) (T : Bool) (NL : List Kn) (i : Nat) (O : Nat → Prop) (W : World) : Prop :=
  Hold w (w.heap.size + 1) (.int .i64 0) O W ∧ Hold w nb (.map (some mb)) O W ∧ (¬ O mb ∧ mb < W.heap.size ∧ KM W mb) ∧ T = (NL.drop i).all okI
def FltX (w : World) (T : Bool) (cd : Code) (_ : Nat) (O : Nat → Prop) (W : World) : Prop := cd = .ret ∧ Hold w (w.heap.size + 1) (.int .i64 2) O W ∧ T = false

theorem FltI.abid (w : World) (mb nb : Nat) (T : Bool) (NL : List Kn) : Abid (FltI w mb nb T NL) := fun _ O O' A B h hK hn => by
  obtain ⟨h1, h2, ⟨h3, h4, h5⟩, h6⟩ := h
  refine ⟨h1.abid hK hn, h2.abid hK hn, ⟨fun x => ?_, Nat.lt_of_lt_of_le h4 hK.size, h5.keep (hK.block mb h4 h3)⟩, h6⟩
  rcases hn _ x with y | y
  · exact h3 y
  · omega
theorem FltX.abid (w : World) (T : Bool) (cd : Code) : Abid (FltX w T cd) := fun _ _ _ _ _ h hK hn => ⟨h.1, h.2.1.abid hK hn, h.2.2⟩

set_option maxRecDepth 100000 in
set_option maxHeartbeats 4000000 in
theorem iFaultTrue (k : Int) (nm : ByteArray) (a : Option Addr) (cap : Nat) (ks : Fo) (w : World)
    (hk : (Lit.int .i64 k).wf = true) (hnm : nm.size ≤ maxLen) (hs : ks.Sl w (fun b => b < w.heap.size) a cap) (hsz : ks.size ≤ 1048576) (hT : tooL ((Fo.cons k nm a cap ks .nil).pre 1) 0 = true) :
    Calls Tryz.prog 7 #[.agg #[.int .i64 k, .string nm, .slice a ks.len cap]] w fun e W' => e = .returned (.int .i64 1) ∧ Below w.heap.size w W' := by
  have HC : Hid (∀ wx, Below w.heap.size w wx → Calls Tryz.prog 13 #[.agg #[.int .i64 k, .string nm, .slice a ks.len cap]] wx fun e W' => e = .returned (.bool true) ∧ Below wx.heap.size wx W') := fun wx hb => by
    have h := callsIn_wide.1 (itoo_in 3 (Nat.le_refl _) k nm a cap ks wx hk hnm ((hs.below hb (fun b x => x)).mono (fun b x => by have := hb.size; omega)) hsz)
    rw [hT] at h
    exact h
  have q1 := Box3.new w (.int .i64 k) (.string nm) (.slice a ks.len cap) 29
  have hB0 : Below w.heap.size w (w.alloc (.cells #[.int .i64 k, .string nm, .slice a ks.len cap] 29)) := below_alloc1 _ _
  obtain ⟨A, hA⟩ : ∃ A, w.alloc (.cells #[.int .i64 k, .string nm, .slice a ks.len cap] 29) = A := ⟨_, rfl⟩
  rw [hA] at q1 hB0
  have zA : A.heap.size = w.heap.size + 1 := by rw [← hA]; simp
  obtain ⟨B, hB⟩ : ∃ B, A.alloc (.cells #[.int .i64 0] 2) = B := ⟨_, rfl⟩
  have bB : Below A.heap.size A B := by rw [← hB]; exact below_alloc1 _ _
  have hB1 : Below w.heap.size w B := hB0.trans (bB.mono hB0.size)
  have hq : Box3 B w.heap.size (.int .i64 k) (.string nm) (.slice a ks.len cap) := q1.below bB (by omega)
  have hr : Hold w (w.heap.size + 1) (.int .i64 0) (fun _ => False) B := by
    refine ⟨?_, ?_, fun z => z, hB1, fun _ z => z.elim⟩ <;> rw [← hB, ← zA] <;> simp
  have HC' := hide (HC.out B hB1)
  clear q1 hB0 bB HC hs hT hk hnm hsz
  obtain ⟨-, d0, d1, d2, -, -, -⟩ := id hq
  go_enter Tryz.func7, Tryz.ntmps7
  go_wp2_with fail
  refine HC'.out.mono ?_
  rintro e w1 ⟨rfl, b1⟩
  have r1 := hr.next b1
  have y4 := r1.1
  have y5 := r1.2.1
  go_wp2_with fail
  have hset := r1.set (.int .i64 1) (by omega)
  refine ⟨by simp, .int .i64 1, by simp [results, Tryz.results7, go_sem, hset.1], rfl, hset.2.2.2.1⟩

set_option maxRecDepth 100000 in
set_option maxHeartbeats 4000000 in
theorem ifault_in (n : Nat) (hn : 8 ≤ n) (k : Int) (nm : ByteArray) (a : Option Addr) (cap : Nat) (ks : Fo) (w : World)
    (hk : (Lit.int .i64 k).wf = true) (hnm : nm.size ≤ maxLen) (hs : ks.Sl w (fun b => b < w.heap.size) a cap) (hsz : ks.size ≤ 1048576) (hT : tooL ((Fo.cons k nm a cap ks .nil).pre 1) 0 = false)
    (htb : TbAt w) (ht : TabB w.heap.size w) :
    CallsIn Fence.wide n Tryz.prog 7 #[.agg #[.int .i64 k, .string nm, .slice a ks.len cap]] w fun e W' => e = .returned (.int .i64 (if (Fo.cons k nm a cap ks .nil).nodes.all okI = true then 0 else 2)) ∧ Below w.heap.size w W' := by
  have h1 : 1 ≤ n := by omega
  obtain ⟨T, hTd⟩ : ∃ T, T = (Fo.cons k nm a cap ks .nil).nodes.all okI := ⟨_, rfl⟩
  rw [← hTd]
  have HA : Hid (∀ wx, Below w.heap.size w wx → CallsIn Fence.wide (n - 1) Tryz.prog 13 #[.agg #[.int .i64 k, .string nm, .slice a ks.len cap]] wx fun e W' => e = .returned (.bool false) ∧ Below wx.heap.size wx W') := fun wx hb => by
    have h := itoo_in (n - 1) (by omega) k nm a cap ks wx hk hnm ((hs.below hb (fun b x => x)).mono (fun b x => by have := hb.size; omega)) hsz
    rw [hT] at h
    exact h
  have HB : Hid (∀ wx, Below w.heap.size w wx → CallsIn Fence.wide (n - 1) Tryz.prog 14 #[] wx fun e W' => e = .returned (.map (some wx.heap.size)) ∧ KM W' wx.heap.size ∧ wx.heap.size < W'.heap.size ∧ Below wx.heap.size wx W') := fun wx hb =>
    callsIn_wide.2 (iKept wx (fun w' k' => ht w' (hb.trans (k'.mono hb.size))))
  have hq0 := Box3.new w (.int .i64 k) (.string nm) (.slice a ks.len cap) 29
  have hB0 : Below w.heap.size w (w.alloc (.cells #[.int .i64 k, .string nm, .slice a ks.len cap] 29)) := below_alloc1 _ _
  obtain ⟨A, hA⟩ : ∃ A, w.alloc (.cells #[.int .i64 k, .string nm, .slice a ks.len cap] 29) = A := ⟨_, rfl⟩
  rw [hA] at hq0 hB0
  have zA : A.heap.size = w.heap.size + 1 := by rw [← hA]; simp
  obtain ⟨B, hB⟩ : ∃ B, A.alloc (.cells #[.int .i64 0] 2) = B := ⟨_, rfl⟩
  have bB : Below A.heap.size A B := by rw [← hB]; exact below_alloc1 _ _
  have hB1 : Below w.heap.size w B := hB0.trans (bB.mono hB0.size)
  have hq : Box3 B w.heap.size (.int .i64 k) (.string nm) (.slice a ks.len cap) := hq0.below bB (by omega)
  have hr : Hold w (w.heap.size + 1) (.int .i64 0) (fun _ => False) B := by
    refine ⟨?_, ?_, fun z => z, hB1, fun _ z => z.elim⟩ <;> rw [← hB, ← zA] <;> simp
  have HA' := hide (HA.out B hB1)
  have qlt := hq.lt
  have hqc := id hq
  obtain ⟨-, d0, d1, d2, -, -, -⟩ := hqc
  have HQ := hide hq
  clear hq0 hB0 bB HA hT hq
  refine callsIn_of_wp_marks Tryz.func7 rfl trivial ?_ rfl
  simp only [Tryz.ntmps7, List.size_toArray, List.length_cons, List.length_nil, Nat.reduceAdd, Nat.reduceSub, Array.replicate_succ, Array.replicate_zero, List.push_toArray, List.append_toArray, List.nil_append, List.cons_append]
  gi_wp2_with (refine ⟨trivial, ?_⟩; gi_at_call 13; refine HA'.out.mono ?_; rintro e w1 ⟨rfl, b1⟩)
  have r1 := hr.next b1
  have q1 := HQ.out.below b1 qlt
  have HB' := hide (HB.out w1 r1.2.2.2.1)
  clear HB hr HA'
  gi_wp2_with (refine ⟨trivial, ?_⟩; gi_at_call 14; refine HB'.out.mono ?_; rintro e w2 ⟨rfl, m2, l2, b2⟩; have q3 := (q1.below b2 (by have := b1.size; omega)).below (below_alloc1 w2 (.cells #[.map (some w1.heap.size)] 42)) (by have := b1.size; have := b2.size; omega); have x0 := q3.c0; have x1 := q3.c1; have x2 := q3.c2)
  gi_wp2_with (refine ⟨trivial, ?_⟩; gi_at_call 15; refine (nodesOf_in Fence.wide (n - 1) trivial rfl _ _ _ _ _ _).mono ?_; rintro e w' ⟨rfl, rfl⟩)
  have HS := hide hs
  obtain ⟨NL, hNL⟩ : ∃ NL, NL = (Fo.cons k nm a cap ks .nil).nodes := ⟨_, rfl⟩
  obtain ⟨LL, hLL⟩ : ∃ LL, LL = (Fo.cons k nm a cap ks .nil).pre 1 := ⟨_, rfl⟩
  have hLn : LL.length = 1 + ks.size := by rw [hLL, Fo.pre_length]; simp only [Fo.size]; omega
  have hLm : LL.map Prod.snd = NL.map Kn.v := by rw [hLL, hNL]; exact Fo.pre_nodes _ _
  have hNn : NL.length = 1 + ks.size := by have h := congrArg List.length hLm; rw [List.length_map, List.length_map] at h; omega
  have hbA := below_alloc1 w2 (.cells #[.map (some w1.heap.size)] 42)
  have hbB := below_alloc1 (w2.alloc (.cells #[.map (some w1.heap.size)] 42)) (.cells #[.int .i64 k, .string nm, .slice a ks.len cap] 29)
  have r2 := ((r1.next b2).next hbA).next hbB
  have n2 : Hold w w2.heap.size (.map (some w1.heap.size)) (fun _ => False) (w2.alloc (.cells #[.map (some w1.heap.size)] 42)) :=
    ⟨by simp, by simp, fun z => z, ((r1.next b2).next hbA).2.2.2.1, fun _ z => z.elim⟩
  have n3 := n2.next hbB
  have hmw : w1.heap.size < ((w2.alloc (.cells #[.map (some w1.heap.size)] 42)).alloc (.cells #[.int .i64 k, .string nm, .slice a ks.len cap] 29)).heap.size := by rw [World.size_alloc, World.size_alloc]; omega
  have km : KM ((w2.alloc (.cells #[.map (some w1.heap.size)] 42)).alloc (.cells #[.int .i64 k, .string nm, .slice a ks.len cap] 29)) w1.heap.size := (m2.below hbA l2).below hbB (by rw [World.size_alloc]; omega)
  have q4 : Box3 ((w2.alloc (.cells #[.map (some w1.heap.size)] 42)).alloc (.cells #[.int .i64 k, .string nm, .slice a ks.len cap] 29)) (w2.heap.size + 1) (.int .i64 k) (.string nm) (.slice a ks.len cap) := by
    have := Box3.new (w2.alloc (.cells #[.map (some w1.heap.size)] 42)) (.int .i64 k) (.string nm) (.slice a ks.len cap) 29
    rwa [World.size_alloc] at this
  have hB0 : Below w.heap.size w ((w2.alloc (.cells #[.map (some w1.heap.size)] 42)).alloc (.cells #[.int .i64 k, .string nm, .slice a ks.len cap] 29)) := r2.2.2.2.1
  have hw1 : w.heap.size + 1 < w1.heap.size := by have := block_lt_of_cell r1.1; simpa using this
  have hKN : ∀ W, Below w.heap.size w W → ∀ x, x ∈ NL → KnOk W (fun b => b < w.heap.size) x := fun W hb x hx => by
    rw [hNL] at hx
    simp only [Fo.nodes, List.mem_cons, List.mem_append, List.not_mem_nil, or_false] at hx
    rcases hx with rfl | hx
    · exact ⟨hnm, hs.below hb (fun _ x => x)⟩
    · exact (hs.below hb (fun _ x => x)).nodes x hx
  have HKN := hide hKN
  have z0 : ((w2.alloc (.cells #[.map (some w1.heap.size)] 42)).alloc (.cells #[.int .i64 k, .string nm, .slice a ks.len cap] 29)).heap.size = w2.heap.size + 1 + 1 := by rw [World.size_alloc, World.size_alloc]
  rw [← hNL] at hTd
  generalize (w2.alloc (.cells #[.map (some w1.heap.size)] 42)).alloc (.cells #[.int .i64 k, .string nm, .slice a ks.len cap] 29) = W0 at *
  have hI0 : FltI w w1.heap.size w2.heap.size T NL 0 (fun _ => False) W0 := ⟨r2, n3, ⟨fun z => z, hmw, km⟩, by rw [hTd]; rfl⟩
  clear hbA hbB n2 q3 x0 x1 x2 HB' q1 HQ d0 d1 d2 b1 qlt hB1 hKN hA hB zA km n3 r2 hmw hTd r1 m2
  refine wpIn_range rfl h1 (gf := 21) (lb := #[.pointer (some ⟨w2.heap.size + 1, 0, none⟩)]) rfl trivial (enters_of Tryz.func21 (by kernel_rfl) rfl)
    (nodes_seq Fence.wide (n - 1) trivial rfl (by omega) (w2.heap.size + 1) w.heap.size k nm a cap ks W0 (by have := hB0.size; omega) hk hnm q4 (hs.below hB0 (fun _ x => x)) hsz) (Below.refl _ _) (by have := hB0.size; omega) (fun _ => rfl)
    (FltI w w1.heap.size w2.heap.size T NL) (FltX w T) (FltI.abid _ _ _ _ _) (FltX.abid _ _) hI0
    (fun i O a' W => ∃ (x : Kn) (b : Nat) (d : Value), NL[i]? = some x ∧ Box3 W b (.int .i64 x.k) (.string x.nm) (.slice x.a x.ks.len x.cap) ∧ ¬ O b ∧ w.heap.size + 1 < b ∧ a' = { tmps := #[.agg #[.int .i64 k, .string nm, .slice a ks.len cap], .pointer (some ⟨w.heap.size, 0, none⟩), .pointer (some ⟨w.heap.size + 1, 0, none⟩), .pointer (some ⟨w2.heap.size, 0, none⟩), undef, .pointer (some ⟨b, 0, none⟩),
      .agg #[.int .i64 k, .string nm, .slice a ks.len cap], .bool false, .map (some w1.heap.size), .agg #[.map (some w1.heap.size)], .agg #[.int .i64 k, .string nm, .slice a ks.len cap],
      .func (.func 21) #[] #[.pointer (some ⟨w2.heap.size + 1, 0, none⟩)], d, .agg #[.int .i64 x.k, .string x.nm, .slice x.a x.ks.len x.cap], undef, undef, undef, undef, undef, undef, undef, undef, undef], defers := [] })
    ?assign ?body ?done ?stop
  case assign =>
    intro l i O W K hi hNB hI hK
    obtain ⟨x, hx⟩ : ∃ x, NL[i]? = some x := ⟨_, List.getElem?_eq_getElem (by omega)⟩
    have hv : (LL.getD i (0, undef)).2 = .agg #[.int .i64 x.k, .string x.nm, .slice x.a x.ks.len x.cap] := by
      have h := congrArg (fun z => z[i]?) hLm
      simp only [List.getElem?_map, hx, Option.map_some] at h
      rw [List.getD_eq_getElem?_getD]
      cases h2 : LL[i]? with
      | none => rw [h2] at h; cases h
      | some p => rw [h2] at h; exact Option.some.inj h
    have hO : ¬ O W.heap.size := fun h => by have := (hNB _ h).lt; omega
    have hlt : w.heap.size + 1 < W.heap.size := by have := block_lt_of_cell hI.1.1; simpa using this
    have hq := Box3.new W (.int .i64 x.k) (.string x.nm) (.slice x.a x.ks.len x.cap) 29
    have hI' := FltI.abid _ _ _ _ _ i O O _ _ hI (Kept.alloc (fun b => ¬ O b) W (.cells #[.int .i64 x.k, .string x.nm, .slice x.a x.ks.len x.cap] 29)) (fun b h => .inl h)
    have hK2 := fun d => hK _ _ (Kept.alloc _ W (.cells #[.int .i64 x.k, .string x.nm, .slice x.a x.ks.len x.cap] 29)) hI' ⟨x, W.heap.size, d, hx, hq, hO, hlt, rfl⟩
    have HK2 := hide hK2
    clear hK hI hI' hq hlt hO hK2 hx
    rw [← hLL]
    simp only [encsOf]
    rw [hv]
    generalize (List.getD LL i (0, undef)).1 = d
    clear hv
    gi_wp2
    exact HK2.out _
  case body =>
    rintro l i O a' W1 W hi ⟨x, b, d, hx, hbx, hOb, hwb, rfl⟩ hkp hNB ⟨hr, hn, ⟨hm1, hm2, hm3⟩, hT2⟩ hO
    have hbW := hbx.kept hkp hOb
    have hxm : x ∈ NL := List.mem_of_getElem? hx
    have hT3 : T = (okI x && (NL.drop (i + 1)).all okI) := by rw [hT2, drop_step hx, List.all_cons]
    unfold okI at hT3
    have H1 := hide (iFit w1.heap.size x.k x.nm x.a x.ks.len x.cap W hm2 hm3)
    have H2 : Hid (∀ wx, Below W.heap.size W wx → Calls Tryz.prog 17 #[.agg #[.int .i64 x.k, .string x.nm, .slice x.a x.ks.len x.cap]] wx fun e W' => e = .returned (.bool (kidsI x.k x.ks.list)) ∧ Below wx.heap.size wx W') := fun wx hb => by
      have hbw : Below w.heap.size w wx := hr.2.2.2.1.trans (hb.mono hr.2.2.2.1.size)
      have hok := HKN.out wx hbw x hxm
      exact callsIn_wide.1 (iKids 6 (Nat.le_refl _) x.k x.nm x.a x.ks.len x.cap x.ks.list wx x.ks.list_length hok.2.1 hok.2.2.1 ((hok.2.mono (fun b h => by have := hbw.size; omega)).kids) (htb.kept (Kept.of_below (S := fun _ => True) hbw (fun b hb _ => hb)) trivial))
    have hqc := id hbW
    obtain ⟨-, e0, e1, e2, -, -, -⟩ := hqc
    have x3 := hn.1
    have x4 := hr.1
    have x5 := hr.2.1
    have hql := hbW.lt
    have HKk : ∀ v, Hid (∀ W', Below W.heap.size W W' → Kept (fun b => O b ∨ b < w.heap.size) W (W'.setCell ⟨w.heap.size + 1, 0, none⟩ v)) := fun v W' hb =>
      (Kept.of_below hb (fun b hb _ => hb)).trans (Kept.setCell _ _ _ _ (by
        rintro (h | h)
        · exact hr.2.2.1 h
        · exact absurd h (by show ¬ (w.heap.size + 1 < w.heap.size); omega)))
    clear hT2 hbx hkp hxm hx HKN hI0 hNB hLm hLn hNn
    cases hX : nmF x.k x.nm (x.ks.len == 0) with
    | false =>
      rw [hX] at H1 hT3
      have HT4 : Hid (T = false) := hT3
      clear hX hT3
      gi_wp2_with (refine ⟨trivial, fun h => (by cases h), ?_⟩; gi_at_call 16; refine (CallsIn.inRound l (callsIn_wide.2 H1.out)).mono ?_; rintro e w3 ⟨rfl, b3⟩; have r3 := hr.next b3; have y4 := r3.1; have y5 := r3.2.1)
      refine ⟨trivial, ?_⟩
      gi_wp2_with fail
      exact ⟨(HKk _).out _ b3, rfl, r3.set _ (by omega), HT4.out⟩
    | true =>
      rw [hX] at H1 hT3
      cases hY : kidsI x.k x.ks.list with
      | false =>
        rw [hY] at H2 hT3
        have HT4 : Hid (T = false) := hT3
        clear hX hT3 hY
        gi_wp2_with (refine ⟨trivial, fun h => (by cases h), ?_⟩; gi_at_call 16; refine (CallsIn.inRound l (callsIn_wide.2 H1.out)).mono ?_; rintro e w3 ⟨rfl, b3⟩; have q3 := hbW.below b3 hql; have y0 := q3.c0; have y1 := q3.c1; have y2 := q3.c2; have H3 := hide (H2.out w3 b3))
        gi_wp2_with (refine ⟨trivial, fun h => (by cases h), ?_⟩; gi_at_call 17; refine (CallsIn.inRound l (callsIn_wide.2 H3.out)).mono ?_; rintro e w4 ⟨rfl, b4⟩; have b5 := b3.trans (b4.mono b3.size); have r3 := hr.next b5; have y4 := r3.1; have y5 := r3.2.1)
        exact ⟨(HKk _).out _ b5, rfl, r3.set _ (by omega), HT4.out⟩
      | true =>
        rw [hY] at H2 hT3
        have HT4 : Hid (T = (NL.drop (i + 1)).all okI) := hT3
        clear hX hT3 hY
        gi_wp2_with (refine ⟨trivial, fun h => (by cases h), ?_⟩; gi_at_call 16; refine (CallsIn.inRound l (callsIn_wide.2 H1.out)).mono ?_; rintro e w3 ⟨rfl, b3⟩; have q3 := hbW.below b3 hql; have y0 := q3.c0; have y1 := q3.c1; have y2 := q3.c2; have H3 := hide (H2.out w3 b3))
        gi_wp2_with (refine ⟨trivial, fun h => (by cases h), ?_⟩; gi_at_call 17; refine (CallsIn.inRound l (callsIn_wide.2 H3.out)).mono ?_; rintro e w4 ⟨rfl, b4⟩; have b5 := b3.trans (b4.mono b3.size))
        exact ⟨Kept.of_below b5 (fun b hb _ => hb), hr.next b5, hn.next b5, ⟨hm1, Nat.lt_of_lt_of_le hm2 b5.size, hm3.below b5 hm2⟩, HT4.out⟩
  case done =>
    rintro D O W hD hOD hO ⟨⟨c1, c2, c3, c4, c5⟩, hn, _, hT2⟩ hK
    have hTe : T = true := by rw [hT2, List.drop_eq_nil_of_le (by omega)]; rfl
    have hDc : D ≠ w.heap.size + 1 := fun e => c3 (e ▸ hOD)
    have HZ := hide hTe
    clear hT2 hTe
    gi_wp2_with fail
    have hK' := (KeepsOthers.setCell W ⟨w.heap.size + 1, 0, none⟩ (.int .i64 0)).same D _ hK rfl
    refine ⟨by simp, .inl ⟨_, _, rfl, run_takeDeferred hK', ?_⟩⟩
    have hcell : ((W.setCell ⟨w.heap.size + 1, 0, none⟩ (.int .i64 0)).putObj D (.deferred none)).cell? ⟨w.heap.size + 1, 0, none⟩ = some (.int .i64 0) :=
      (World.cell?_of_block (World.putObj_heap_other (Ne.symm hDc))).trans (World.cell?_setCell_same' _ _ _ (by rw [c1]; rfl))
    refine ⟨.int .i64 0, by simp [results, Tryz.results7, go_sem, hcell], rfl, ?_⟩
    exact (c4.setCell (by show w.heap.size ≤ w.heap.size + 1; omega) _).trans (belowK_b (w := w) (Nat.le_refl _) _ D _ _ (by have := hB0.size; omega) hK' rfl rfl)
  case stop =>
    rintro D c i O W hD hOD hO hi ⟨rfl, ⟨c1, c2, c3, c4, c5⟩, ht⟩ hK
    subst ht
    gi_wp2_with fail
    have hDc : D ≠ w.heap.size + 1 := fun e => c3 (e ▸ hOD)
    refine ⟨by simp, .inl ⟨_, _, rfl, run_takeDeferred hK, ?_⟩⟩
    have hcell : (W.putObj D (.deferred none)).cell? ⟨w.heap.size + 1, 0, none⟩ = some (.int .i64 2) :=
      (World.cell?_of_block (World.putObj_heap_other (Ne.symm hDc))).trans c1
    refine ⟨.int .i64 2, by simp [results, Tryz.results7, go_sem, hcell], rfl, ?_⟩
    exact c4.trans (belowK_b (w := w) (Nat.le_refl _) _ D _ _ (by have := hB0.size; omega) hK rfl rfl)

end Go.Proofs.YtjfoagmenehapaaGreatDoor.Tree

namespace Go.Proofs.YtjfoagmenehapaaGreatDoor.Tree
open Go.RowKit Go.Joins

theorem shp_nil (L : List Kn) : shp cqF [] L = L.isEmpty := by cases L <;> rfl

theorem drop_run (q : Kn → Bool) : ∀ L : List Kn, L.drop (run q L) = L.dropWhile q
  | [] => rfl
  | x :: T => by
    cases h : q x with
    | true => rw [run_yes h, Nat.add_comm, List.drop_succ_cons, drop_run q T, List.dropWhile_cons, if_pos h]
    | false => rw [run_no h, List.dropWhile_cons, h]; rfl

theorem dw_all (q : Kn → Bool) : ∀ L : List Kn, (L.dropWhile q).isEmpty = L.all q
  | [] => rfl
  | x :: T => by
    cases h : q x with
    | true => rw [List.dropWhile_cons, if_pos h, dw_all q T, List.all_cons, h, Bool.true_and]
    | false => rw [List.dropWhile_cons, h, List.all_cons, h]; rfl

theorem shp_one {p : ByteArray} {q : Kn → Bool} (R : List ByteArray) (hq : cqF p = q) (hs : starP p = false) (ht : (p.toList == (trimP p).toList) = true) (L : List Kn) :
    shp cqF (p :: R) L = (match L with | [] => false | x :: T => q x && shp cqF R T) := by
  show (if run (cqF p) L = 0 ∧ starP p = false then false else shp cqF R (L.drop (if (p.toList == (trimP p).toList) = true then 1 else run (cqF p) L))) = _
  rw [hq, hs, ht]
  cases L with
  | nil => rw [run_nil, if_pos ⟨rfl, rfl⟩]
  | cons x T =>
    cases h : q x with
    | true => rw [run_yes h, if_neg (fun e => by omega), if_pos rfl]; show _ = (q x && _); rw [h]; rfl
    | false => rw [run_no h, if_pos ⟨rfl, rfl⟩]; show _ = (q x && _); rw [h]; rfl
theorem shp_plus {p : ByteArray} {q : Kn → Bool} (R : List ByteArray) (hq : cqF p = q) (hs : starP p = false) (ht : (p.toList == (trimP p).toList) = false) (L : List Kn) :
    shp cqF (p :: R) L = (match L with | [] => false | x :: T => q x && shp cqF R (T.dropWhile q)) := by
  show (if run (cqF p) L = 0 ∧ starP p = false then false else shp cqF R (L.drop (if (p.toList == (trimP p).toList) = true then 1 else run (cqF p) L))) = _
  rw [hq, hs, ht]
  cases L with
  | nil => rw [run_nil, if_pos ⟨rfl, rfl⟩]
  | cons x T =>
    cases h : q x with
    | true => rw [if_neg (fun e => by have := e.1; rw [run_yes h] at this; omega), if_neg (by decide), drop_run, List.dropWhile_cons, if_pos h]; show _ = (q x && _); rw [h]; rfl
    | false => rw [if_pos ⟨run_no h, rfl⟩]; show _ = (q x && _); rw [h]; rfl
theorem shp_star {p : ByteArray} {q : Kn → Bool} (R : List ByteArray) (hq : cqF p = q) (hs : starP p = true) (ht : (p.toList == (trimP p).toList) = false) (L : List Kn) :
    shp cqF (p :: R) L = shp cqF R (L.dropWhile q) := by
  show (if run (cqF p) L = 0 ∧ starP p = false then false else shp cqF R (L.drop (if (p.toList == (trimP p).toList) = true then 1 else run (cqF p) L))) = _
  rw [hq, hs, ht, if_neg (fun e => by cases e.2), if_neg (by decide), drop_run]

/-- No names that mean everything. -/
def exOK (x : Kn) : Prop := x.k ≠ 70 ∨ x.nm.toList.isEmpty = true
theorem exOK.exK {x : Kn} (h : exOK x) (pk : Int) (i : Nat) : Tree.exK pk i x.k x.nm = true := by
  unfold Tree.exK
  rcases h with h | h
  · rw [beq_eq_false_iff_ne.2 h]; rfl
  · rw [h]; cases x.k == 70 <;> rfl

theorem of_dw {q : Kn → Bool} {P : Kn → Prop} (h : ∀ x, q x = true → P x) : ∀ {L : List Kn}, (∀ x, x ∈ L.dropWhile q → P x) → ∀ x, x ∈ L → P x
  | [], _, x, hx => by cases hx
  | y :: T, hd, x, hx => by
    cases hy : q y with
    | true =>
      rw [List.dropWhile_cons, if_pos hy] at hd
      rcases List.mem_cons.1 hx with rfl | hx
      · exact h _ hy
      · exact of_dw h hd x hx
    | false =>
      rw [List.dropWhile_cons, hy] at hd
      exact hd x hx

theorem shp_ex : ∀ (PS : List ByteArray) (L : List Kn), (∀ p, p ∈ PS → ∀ x, cqF p x = true → exOK x) → (∀ p, p ∈ PS → starP p = true → (p.toList == (trimP p).toList) = false) → shp cqF PS L = true → ∀ x, x ∈ L → exOK x
  | [], L, _, _, h, x, hx => by rw [shp_nil] at h; cases L with
    | nil => cases hx
    | cons y T => cases h
  | p :: R, L, hp, hs, h, x, hx => by
    have hR := shp_ex R
    have hp' := fun q hq => hp q (List.mem_cons_of_mem _ hq)
    have hs' := fun q hq => hs q (List.mem_cons_of_mem _ hq)
    have hpp := hp p (List.mem_cons_self ..)
    have hss := hs p (List.mem_cons_self ..)
    cases e1 : starP p with
    | true =>
      rw [shp_star R rfl e1 (hss e1)] at h
      exact of_dw hpp (hR _ hp' hs' h) x hx
    | false =>
      cases e2 : (p.toList == (trimP p).toList) with
      | true =>
        rw [shp_one R rfl e1 e2] at h
        cases L with
        | nil => cases hx
        | cons y T =>
          have h2 := (Bool.and_eq_true _ _).mp h
          rcases List.mem_cons.1 hx with rfl | hx
          · exact hpp _ h2.1
          · exact hR _ hp' hs' h2.2 x hx
      | false =>
        rw [shp_plus R rfl e1 e2] at h
        cases L with
        | nil => cases hx
        | cons y T =>
          have h2 := (Bool.and_eq_true _ _).mp h
          rcases List.mem_cons.1 hx with rfl | hx
          · exact hpp _ h2.1
          · exact of_dw hpp (hR _ hp' hs' h2.2) x hx


theorem cq_altP : cqF ⟨#[97, 108, 116, 43]⟩ = fun x => x.k == 19 := rfl
theorem sq_altP : starP ⟨#[97, 108, 116, 43]⟩ = false := by kernel_rfl
theorem tq_altP : ((⟨#[97, 108, 116, 43]⟩ : ByteArray).toList == (trimP ⟨#[97, 108, 116, 43]⟩).toList) = false := by kernel_rfl
theorem shp_altP (R : List ByteArray) (L : List Kn) : shp cqF (⟨#[97, 108, 116, 43]⟩ :: R) L = (match L with | [] => false | x :: T => (x.k == 19) && shp cqF R (T.dropWhile (fun x => x.k == 19))) := shp_plus R cq_altP sq_altP tq_altP L
theorem ex_altP : ∀ x, cqF ⟨#[97, 108, 116, 43]⟩ x = true → exOK x := by
  intro x h
  rw [cq_altP] at h
  refine .inl (fun e => ?_)
  simp only [e] at h
  exact absurd h (by simp)

theorem cq_boundS : cqF ⟨#[98, 111, 117, 110, 100, 42]⟩ = fun x => bndB x := rfl
theorem sq_boundS : starP ⟨#[98, 111, 117, 110, 100, 42]⟩ = true := by kernel_rfl
theorem tq_boundS : ((⟨#[98, 111, 117, 110, 100, 42]⟩ : ByteArray).toList == (trimP ⟨#[98, 111, 117, 110, 100, 42]⟩).toList) = false := by kernel_rfl
theorem shp_boundS (R : List ByteArray) (L : List Kn) : shp cqF (⟨#[98, 111, 117, 110, 100, 42]⟩ :: R) L = shp cqF R (L.dropWhile (fun x => bndB x)) := shp_star R cq_boundS sq_boundS tq_boundS L
theorem ex_boundS : ∀ x, cqF ⟨#[98, 111, 117, 110, 100, 42]⟩ x = true → exOK x := by
  intro x h
  rw [cq_boundS] at h
  refine .inl (fun e => ?_)
  unfold bndB at h
  simp only [e] at h
  exact absurd h (by simp)

theorem cq_clauseS : cqF ⟨#[99, 108, 97, 117, 115, 101, 42]⟩ = fun x => x.k == 61 := rfl
theorem sq_clauseS : starP ⟨#[99, 108, 97, 117, 115, 101, 42]⟩ = true := by kernel_rfl
theorem tq_clauseS : ((⟨#[99, 108, 97, 117, 115, 101, 42]⟩ : ByteArray).toList == (trimP ⟨#[99, 108, 97, 117, 115, 101, 42]⟩).toList) = false := by kernel_rfl
theorem shp_clauseS (R : List ByteArray) (L : List Kn) : shp cqF (⟨#[99, 108, 97, 117, 115, 101, 42]⟩ :: R) L = shp cqF R (L.dropWhile (fun x => x.k == 61)) := shp_star R cq_clauseS sq_clauseS tq_clauseS L
theorem ex_clauseS : ∀ x, cqF ⟨#[99, 108, 97, 117, 115, 101, 42]⟩ x = true → exOK x := by
  intro x h
  rw [cq_clauseS] at h
  refine .inl (fun e => ?_)
  simp only [e] at h
  exact absurd h (by simp)

theorem cq_constrP : cqF ⟨#[99, 111, 110, 115, 116, 114, 43]⟩ = fun x => x.k == 64 := rfl
theorem sq_constrP : starP ⟨#[99, 111, 110, 115, 116, 114, 43]⟩ = false := by kernel_rfl
theorem tq_constrP : ((⟨#[99, 111, 110, 115, 116, 114, 43]⟩ : ByteArray).toList == (trimP ⟨#[99, 111, 110, 115, 116, 114, 43]⟩).toList) = false := by kernel_rfl
theorem shp_constrP (R : List ByteArray) (L : List Kn) : shp cqF (⟨#[99, 111, 110, 115, 116, 114, 43]⟩ :: R) L = (match L with | [] => false | x :: T => (x.k == 64) && shp cqF R (T.dropWhile (fun x => x.k == 64))) := shp_plus R cq_constrP sq_constrP tq_constrP L
theorem ex_constrP : ∀ x, cqF ⟨#[99, 111, 110, 115, 116, 114, 43]⟩ x = true → exOK x := by
  intro x h
  rw [cq_constrP] at h
  refine .inl (fun e => ?_)
  simp only [e] at h
  exact absurd h (by simp)

theorem cq_context : cqF ⟨#[99, 111, 110, 116, 101, 120, 116]⟩ = fun x => x.k == 69 := rfl
theorem sq_context : starP ⟨#[99, 111, 110, 116, 101, 120, 116]⟩ = false := by kernel_rfl
theorem tq_context : ((⟨#[99, 111, 110, 116, 101, 120, 116]⟩ : ByteArray).toList == (trimP ⟨#[99, 111, 110, 116, 101, 120, 116]⟩).toList) = true := by kernel_rfl
theorem shp_context (R : List ByteArray) (L : List Kn) : shp cqF (⟨#[99, 111, 110, 116, 101, 120, 116]⟩ :: R) L = (match L with | [] => false | x :: T => (x.k == 69) && shp cqF R T) := shp_one R cq_context sq_context tq_context L
theorem ex_context : ∀ x, cqF ⟨#[99, 111, 110, 116, 101, 120, 116]⟩ x = true → exOK x := by
  intro x h
  rw [cq_context] at h
  refine .inl (fun e => ?_)
  simp only [e] at h
  exact absurd h (by simp)

theorem cq_dS : cqF ⟨#[100, 42]⟩ = fun x => dK x.k := rfl
theorem sq_dS : starP ⟨#[100, 42]⟩ = true := by kernel_rfl
theorem tq_dS : ((⟨#[100, 42]⟩ : ByteArray).toList == (trimP ⟨#[100, 42]⟩).toList) = false := by kernel_rfl
theorem shp_dS (R : List ByteArray) (L : List Kn) : shp cqF (⟨#[100, 42]⟩ :: R) L = shp cqF R (L.dropWhile (fun x => dK x.k)) := shp_star R cq_dS sq_dS tq_dS L
theorem ex_dS : ∀ x, cqF ⟨#[100, 42]⟩ x = true → exOK x := by
  intro x h
  rw [cq_dS] at h
  refine .inl (fun e => ?_)
  simp only [e] at h
  exact absurd h (by simp [dK])

theorem cq_e : cqF ⟨#[101]⟩ = fun x => eK x.k := rfl
theorem sq_e : starP ⟨#[101]⟩ = false := by kernel_rfl
theorem tq_e : ((⟨#[101]⟩ : ByteArray).toList == (trimP ⟨#[101]⟩).toList) = true := by kernel_rfl
theorem shp_e (R : List ByteArray) (L : List Kn) : shp cqF (⟨#[101]⟩ :: R) L = (match L with | [] => false | x :: T => (eK x.k) && shp cqF R T) := shp_one R cq_e sq_e tq_e L
theorem ex_e : ∀ x, cqF ⟨#[101]⟩ x = true → exOK x := by
  intro x h
  rw [cq_e] at h
  refine .inl (fun e => ?_)
  simp only [e] at h
  exact absurd h (by simp [eK])

theorem cq_eS : cqF ⟨#[101, 42]⟩ = fun x => eK x.k := rfl
theorem sq_eS : starP ⟨#[101, 42]⟩ = true := by kernel_rfl
theorem tq_eS : ((⟨#[101, 42]⟩ : ByteArray).toList == (trimP ⟨#[101, 42]⟩).toList) = false := by kernel_rfl
theorem shp_eS (R : List ByteArray) (L : List Kn) : shp cqF (⟨#[101, 42]⟩ :: R) L = shp cqF R (L.dropWhile (fun x => eK x.k)) := shp_star R cq_eS sq_eS tq_eS L
theorem ex_eS : ∀ x, cqF ⟨#[101, 42]⟩ x = true → exOK x := by
  intro x h
  rw [cq_eS] at h
  refine .inl (fun e => ?_)
  simp only [e] at h
  exact absurd h (by simp [eK])

theorem cq_eP : cqF ⟨#[101, 43]⟩ = fun x => eK x.k := rfl
theorem sq_eP : starP ⟨#[101, 43]⟩ = false := by kernel_rfl
theorem tq_eP : ((⟨#[101, 43]⟩ : ByteArray).toList == (trimP ⟨#[101, 43]⟩).toList) = false := by kernel_rfl
theorem shp_eP (R : List ByteArray) (L : List Kn) : shp cqF (⟨#[101, 43]⟩ :: R) L = (match L with | [] => false | x :: T => (eK x.k) && shp cqF R (T.dropWhile (fun x => eK x.k))) := shp_plus R cq_eP sq_eP tq_eP L
theorem ex_eP : ∀ x, cqF ⟨#[101, 43]⟩ x = true → exOK x := by
  intro x h
  rw [cq_eP] at h
  refine .inl (fun e => ?_)
  simp only [e] at h
  exact absurd h (by simp [eK])

theorem cq_exports : cqF ⟨#[101, 120, 112, 111, 114, 116, 115]⟩ = fun x => x.k == 70 := rfl
theorem sq_exports : starP ⟨#[101, 120, 112, 111, 114, 116, 115]⟩ = false := by kernel_rfl
theorem tq_exports : ((⟨#[101, 120, 112, 111, 114, 116, 115]⟩ : ByteArray).toList == (trimP ⟨#[101, 120, 112, 111, 114, 116, 115]⟩).toList) = true := by kernel_rfl
theorem shp_exports (R : List ByteArray) (L : List Kn) : shp cqF (⟨#[101, 120, 112, 111, 114, 116, 115]⟩ :: R) L = (match L with | [] => false | x :: T => (x.k == 70) && shp cqF R T) := shp_one R cq_exports sq_exports tq_exports L

theorem cq_guardP : cqF ⟨#[103, 117, 97, 114, 100, 43]⟩ = fun x => x.k == 21 := rfl
theorem sq_guardP : starP ⟨#[103, 117, 97, 114, 100, 43]⟩ = false := by kernel_rfl
theorem tq_guardP : ((⟨#[103, 117, 97, 114, 100, 43]⟩ : ByteArray).toList == (trimP ⟨#[103, 117, 97, 114, 100, 43]⟩).toList) = false := by kernel_rfl
theorem shp_guardP (R : List ByteArray) (L : List Kn) : shp cqF (⟨#[103, 117, 97, 114, 100, 43]⟩ :: R) L = (match L with | [] => false | x :: T => (x.k == 21) && shp cqF R (T.dropWhile (fun x => x.k == 21))) := shp_plus R cq_guardP sq_guardP tq_guardP L
theorem ex_guardP : ∀ x, cqF ⟨#[103, 117, 97, 114, 100, 43]⟩ x = true → exOK x := by
  intro x h
  rw [cq_guardP] at h
  refine .inl (fun e => ?_)
  simp only [e] at h
  exact absurd h (by simp)

theorem cq_importS : cqF ⟨#[105, 109, 112, 111, 114, 116, 42]⟩ = fun x => x.k == 67 := rfl
theorem sq_importS : starP ⟨#[105, 109, 112, 111, 114, 116, 42]⟩ = true := by kernel_rfl
theorem tq_importS : ((⟨#[105, 109, 112, 111, 114, 116, 42]⟩ : ByteArray).toList == (trimP ⟨#[105, 109, 112, 111, 114, 116, 42]⟩).toList) = false := by kernel_rfl
theorem shp_importS (R : List ByteArray) (L : List Kn) : shp cqF (⟨#[105, 109, 112, 111, 114, 116, 42]⟩ :: R) L = shp cqF R (L.dropWhile (fun x => x.k == 67)) := shp_star R cq_importS sq_importS tq_importS L
theorem ex_importS : ∀ x, cqF ⟨#[105, 109, 112, 111, 114, 116, 42]⟩ x = true → exOK x := by
  intro x h
  rw [cq_importS] at h
  refine .inl (fun e => ?_)
  simp only [e] at h
  exact absurd h (by simp)

theorem cq_itemS : cqF ⟨#[105, 116, 101, 109, 42]⟩ = fun x => x.k == 71 := rfl
theorem sq_itemS : starP ⟨#[105, 116, 101, 109, 42]⟩ = true := by kernel_rfl
theorem tq_itemS : ((⟨#[105, 116, 101, 109, 42]⟩ : ByteArray).toList == (trimP ⟨#[105, 116, 101, 109, 42]⟩).toList) = false := by kernel_rfl
theorem shp_itemS (R : List ByteArray) (L : List Kn) : shp cqF (⟨#[105, 116, 101, 109, 42]⟩ :: R) L = shp cqF R (L.dropWhile (fun x => x.k == 71)) := shp_star R cq_itemS sq_itemS tq_itemS L
theorem ex_itemS : ∀ x, cqF ⟨#[105, 116, 101, 109, 42]⟩ x = true → exOK x := by
  intro x h
  rw [cq_itemS] at h
  refine .inl (fun e => ?_)
  simp only [e] at h
  exact absurd h (by simp)

theorem cq_level : cqF ⟨#[108, 101, 118, 101, 108]⟩ = fun x => (x.k == 3 && x.nm.size == 1) := rfl
theorem sq_level : starP ⟨#[108, 101, 118, 101, 108]⟩ = false := by kernel_rfl
theorem tq_level : ((⟨#[108, 101, 118, 101, 108]⟩ : ByteArray).toList == (trimP ⟨#[108, 101, 118, 101, 108]⟩).toList) = true := by kernel_rfl
theorem shp_level (R : List ByteArray) (L : List Kn) : shp cqF (⟨#[108, 101, 118, 101, 108]⟩ :: R) L = (match L with | [] => false | x :: T => ((x.k == 3 && x.nm.size == 1)) && shp cqF R T) := shp_one R cq_level sq_level tq_level L
theorem ex_level : ∀ x, cqF ⟨#[108, 101, 118, 101, 108]⟩ x = true → exOK x := by
  intro x h
  rw [cq_level] at h
  refine .inl (fun e => ?_)
  simp only [e] at h
  exact absurd h (by simp)

theorem cq_names : cqF ⟨#[110, 97, 109, 101, 115]⟩ = fun x => plainB x.k x.nm := rfl
theorem sq_names : starP ⟨#[110, 97, 109, 101, 115]⟩ = false := by kernel_rfl
theorem tq_names : ((⟨#[110, 97, 109, 101, 115]⟩ : ByteArray).toList == (trimP ⟨#[110, 97, 109, 101, 115]⟩).toList) = true := by kernel_rfl
theorem shp_names (R : List ByteArray) (L : List Kn) : shp cqF (⟨#[110, 97, 109, 101, 115]⟩ :: R) L = (match L with | [] => false | x :: T => (plainB x.k x.nm) && shp cqF R T) := shp_one R cq_names sq_names tq_names L
theorem ex_names : ∀ x, cqF ⟨#[110, 97, 109, 101, 115]⟩ x = true → exOK x := by
  intro x h
  rw [cq_names] at h
  exact .inr ((Bool.and_eq_true _ _).mp h).2

theorem cq_none : cqF ⟨#[110, 111, 110, 101]⟩ = fun _ => false := rfl
theorem sq_none : starP ⟨#[110, 111, 110, 101]⟩ = false := by kernel_rfl
theorem tq_none : ((⟨#[110, 111, 110, 101]⟩ : ByteArray).toList == (trimP ⟨#[110, 111, 110, 101]⟩).toList) = true := by kernel_rfl
theorem shp_none (R : List ByteArray) (L : List Kn) : shp cqF (⟨#[110, 111, 110, 101]⟩ :: R) L = (match L with | [] => false | _ :: T => (false) && shp cqF R T) := shp_one R cq_none sq_none tq_none L
theorem ex_none : ∀ x, cqF ⟨#[110, 111, 110, 101]⟩ x = true → exOK x := by
  intro x h
  rw [cq_none] at h
  cases h

theorem cq_p : cqF ⟨#[112]⟩ = fun x => pK x.k := rfl
theorem sq_p : starP ⟨#[112]⟩ = false := by kernel_rfl
theorem tq_p : ((⟨#[112]⟩ : ByteArray).toList == (trimP ⟨#[112]⟩).toList) = true := by kernel_rfl
theorem shp_p (R : List ByteArray) (L : List Kn) : shp cqF (⟨#[112]⟩ :: R) L = (match L with | [] => false | x :: T => (pK x.k) && shp cqF R T) := shp_one R cq_p sq_p tq_p L
theorem ex_p : ∀ x, cqF ⟨#[112]⟩ x = true → exOK x := by
  intro x h
  rw [cq_p] at h
  refine .inl (fun e => ?_)
  simp only [e] at h
  exact absurd h (by simp [pK])

theorem cq_pS : cqF ⟨#[112, 42]⟩ = fun x => pK x.k := rfl
theorem sq_pS : starP ⟨#[112, 42]⟩ = true := by kernel_rfl
theorem tq_pS : ((⟨#[112, 42]⟩ : ByteArray).toList == (trimP ⟨#[112, 42]⟩).toList) = false := by kernel_rfl
theorem shp_pS (R : List ByteArray) (L : List Kn) : shp cqF (⟨#[112, 42]⟩ :: R) L = shp cqF R (L.dropWhile (fun x => pK x.k)) := shp_star R cq_pS sq_pS tq_pS L
theorem ex_pS : ∀ x, cqF ⟨#[112, 42]⟩ x = true → exOK x := by
  intro x h
  rw [cq_pS] at h
  refine .inl (fun e => ?_)
  simp only [e] at h
  exact absurd h (by simp [pK])

theorem cq_pP : cqF ⟨#[112, 43]⟩ = fun x => pK x.k := rfl
theorem sq_pP : starP ⟨#[112, 43]⟩ = false := by kernel_rfl
theorem tq_pP : ((⟨#[112, 43]⟩ : ByteArray).toList == (trimP ⟨#[112, 43]⟩).toList) = false := by kernel_rfl
theorem shp_pP (R : List ByteArray) (L : List Kn) : shp cqF (⟨#[112, 43]⟩ :: R) L = (match L with | [] => false | x :: T => (pK x.k) && shp cqF R (T.dropWhile (fun x => pK x.k))) := shp_plus R cq_pP sq_pP tq_pP L
theorem ex_pP : ∀ x, cqF ⟨#[112, 43]⟩ x = true → exOK x := by
  intro x h
  rw [cq_pP] at h
  refine .inl (fun e => ?_)
  simp only [e] at h
  exact absurd h (by simp [pK])

theorem cq_qualP : cqF ⟨#[113, 117, 97, 108, 43]⟩ = fun x => (x.k == 22 || x.k == 23) := rfl
theorem sq_qualP : starP ⟨#[113, 117, 97, 108, 43]⟩ = false := by kernel_rfl
theorem tq_qualP : ((⟨#[113, 117, 97, 108, 43]⟩ : ByteArray).toList == (trimP ⟨#[113, 117, 97, 108, 43]⟩).toList) = false := by kernel_rfl
theorem shp_qualP (R : List ByteArray) (L : List Kn) : shp cqF (⟨#[113, 117, 97, 108, 43]⟩ :: R) L = (match L with | [] => false | x :: T => ((x.k == 22 || x.k == 23)) && shp cqF R (T.dropWhile (fun x => (x.k == 22 || x.k == 23)))) := shp_plus R cq_qualP sq_qualP tq_qualP L
theorem ex_qualP : ∀ x, cqF ⟨#[113, 117, 97, 108, 43]⟩ x = true → exOK x := by
  intro x h
  rw [cq_qualP] at h
  refine .inl (fun e => ?_)
  simp only [e] at h
  exact absurd h (by simp)

theorem cq_rhs : cqF ⟨#[114, 104, 115]⟩ = fun x => x.k == 20 := rfl
theorem sq_rhs : starP ⟨#[114, 104, 115]⟩ = false := by kernel_rfl
theorem tq_rhs : ((⟨#[114, 104, 115]⟩ : ByteArray).toList == (trimP ⟨#[114, 104, 115]⟩).toList) = true := by kernel_rfl
theorem shp_rhs (R : List ByteArray) (L : List Kn) : shp cqF (⟨#[114, 104, 115]⟩ :: R) L = (match L with | [] => false | x :: T => (x.k == 20) && shp cqF R T) := shp_one R cq_rhs sq_rhs tq_rhs L
theorem ex_rhs : ∀ x, cqF ⟨#[114, 104, 115]⟩ x = true → exOK x := by
  intro x h
  rw [cq_rhs] at h
  refine .inl (fun e => ?_)
  simp only [e] at h
  exact absurd h (by simp)

theorem cq_sigS : cqF ⟨#[115, 105, 103, 42]⟩ = fun x => x.k == 60 := rfl
theorem sq_sigS : starP ⟨#[115, 105, 103, 42]⟩ = true := by kernel_rfl
theorem tq_sigS : ((⟨#[115, 105, 103, 42]⟩ : ByteArray).toList == (trimP ⟨#[115, 105, 103, 42]⟩).toList) = false := by kernel_rfl
theorem shp_sigS (R : List ByteArray) (L : List Kn) : shp cqF (⟨#[115, 105, 103, 42]⟩ :: R) L = shp cqF R (L.dropWhile (fun x => x.k == 60)) := shp_star R cq_sigS sq_sigS tq_sigS L
theorem ex_sigS : ∀ x, cqF ⟨#[115, 105, 103, 42]⟩ x = true → exOK x := by
  intro x h
  rw [cq_sigS] at h
  refine .inl (fun e => ?_)
  simp only [e] at h
  exact absurd h (by simp)

theorem cq_t : cqF ⟨#[116]⟩ = fun x => tK x.k := rfl
theorem sq_t : starP ⟨#[116]⟩ = false := by kernel_rfl
theorem tq_t : ((⟨#[116]⟩ : ByteArray).toList == (trimP ⟨#[116]⟩).toList) = true := by kernel_rfl
theorem shp_t (R : List ByteArray) (L : List Kn) : shp cqF (⟨#[116]⟩ :: R) L = (match L with | [] => false | x :: T => (tK x.k) && shp cqF R T) := shp_one R cq_t sq_t tq_t L
theorem ex_t : ∀ x, cqF ⟨#[116]⟩ x = true → exOK x := by
  intro x h
  rw [cq_t] at h
  refine .inl (fun e => ?_)
  simp only [e] at h
  exact absurd h (by simp [tK])

theorem cq_tS : cqF ⟨#[116, 42]⟩ = fun x => tK x.k := rfl
theorem sq_tS : starP ⟨#[116, 42]⟩ = true := by kernel_rfl
theorem tq_tS : ((⟨#[116, 42]⟩ : ByteArray).toList == (trimP ⟨#[116, 42]⟩).toList) = false := by kernel_rfl
theorem shp_tS (R : List ByteArray) (L : List Kn) : shp cqF (⟨#[116, 42]⟩ :: R) L = shp cqF R (L.dropWhile (fun x => tK x.k)) := shp_star R cq_tS sq_tS tq_tS L
theorem ex_tS : ∀ x, cqF ⟨#[116, 42]⟩ x = true → exOK x := by
  intro x h
  rw [cq_tS] at h
  refine .inl (fun e => ?_)
  simp only [e] at h
  exact absurd h (by simp [tK])

theorem cq_tP : cqF ⟨#[116, 43]⟩ = fun x => tK x.k := rfl
theorem sq_tP : starP ⟨#[116, 43]⟩ = false := by kernel_rfl
theorem tq_tP : ((⟨#[116, 43]⟩ : ByteArray).toList == (trimP ⟨#[116, 43]⟩).toList) = false := by kernel_rfl
theorem shp_tP (R : List ByteArray) (L : List Kn) : shp cqF (⟨#[116, 43]⟩ :: R) L = (match L with | [] => false | x :: T => (tK x.k) && shp cqF R (T.dropWhile (fun x => tK x.k))) := shp_plus R cq_tP sq_tP tq_tP L
theorem ex_tP : ∀ x, cqF ⟨#[116, 43]⟩ x = true → exOK x := by
  intro x h
  rw [cq_tP] at h
  refine .inl (fun e => ?_)
  simp only [e] at h
  exact absurd h (by simp [tK])

theorem cq_topS : cqF ⟨#[116, 111, 112, 42]⟩ = fun x => topK x.k := rfl
theorem sq_topS : starP ⟨#[116, 111, 112, 42]⟩ = true := by kernel_rfl
theorem tq_topS : ((⟨#[116, 111, 112, 42]⟩ : ByteArray).toList == (trimP ⟨#[116, 111, 112, 42]⟩).toList) = false := by kernel_rfl
theorem shp_topS (R : List ByteArray) (L : List Kn) : shp cqF (⟨#[116, 111, 112, 42]⟩ :: R) L = shp cqF R (L.dropWhile (fun x => topK x.k)) := shp_star R cq_topS sq_topS tq_topS L
theorem ex_topS : ∀ x, cqF ⟨#[116, 111, 112, 42]⟩ x = true → exOK x := by
  intro x h
  rw [cq_topS] at h
  refine .inl (fun e => ?_)
  simp only [e] at h
  exact absurd h (by simp [topK, dK])

theorem cq_tvar : cqF ⟨#[116, 118, 97, 114]⟩ = fun x => x.k == 50 := rfl
theorem sq_tvar : starP ⟨#[116, 118, 97, 114]⟩ = false := by kernel_rfl
theorem tq_tvar : ((⟨#[116, 118, 97, 114]⟩ : ByteArray).toList == (trimP ⟨#[116, 118, 97, 114]⟩).toList) = true := by kernel_rfl
theorem shp_tvar (R : List ByteArray) (L : List Kn) : shp cqF (⟨#[116, 118, 97, 114]⟩ :: R) L = (match L with | [] => false | x :: T => (x.k == 50) && shp cqF R T) := shp_one R cq_tvar sq_tvar tq_tvar L
theorem ex_tvar : ∀ x, cqF ⟨#[116, 118, 97, 114]⟩ x = true → exOK x := by
  intro x h
  rw [cq_tvar] at h
  refine .inl (fun e => ?_)
  simp only [e] at h
  exact absurd h (by simp)

end Go.Proofs.YtjfoagmenehapaaGreatDoor.Tree

