import Derived.Test.YtcnokpaicnjkfaaJL
namespace Go.Proofs.Ytcnokpaicnjkfaa
open Go.RowKit Go.Shelf Go.Joins

attribute [local go_sem] Oper.semAt_some

def FtI (w : World) (LL : List (Nat × Nd)) (k : Nat) (O : Nat → Prop) (W : World) : Prop :=
  Hold w w.heap.size (.int .i64 0) O W ∧ ∀ e, e ∈ LL.take k → (rdK e.2.x).top
def FtX (w : World) (LL : List (Nat × Nd)) (cd : Code) (_ : Nat) (O : Nat → Prop) (W : World) : Prop :=
  cd = .ret ∧ Hold w w.heap.size (.int .i64 2) O W ∧ ¬ ∀ e, e ∈ LL → (rdK e.2.x).top
theorem FtI.abid (w : World) (LL : List (Nat × Nd)) : Abid (FtI w LL) := fun _ _ _ _ _ h hK hn => ⟨h.1.abid hK hn, h.2⟩
theorem FtX.abid (w : World) (LL : List (Nat × Nd)) (cd : Code) : Abid (FtX w LL cd) := fun _ _ _ _ _ h hK hn => ⟨h.1, h.2.1.abid hK hn, h.2.2⟩

theorem enK (k : Int) : ∀ args w, (callFunc (fnK k) args).run Try.prog w = .ok (.enter (fnK k) args) w := by
  unfold fnK
  by_cases e1 : k = 1
  · rw [if_pos e1]; exact enters_of Try.func85 (by kernel_rfl) rfl
  by_cases e2 : k = 2
  · rw [if_neg e1, if_pos e2]; exact enters_of Try.func87 (by kernel_rfl) rfl
  by_cases e3 : k = 3
  · rw [if_neg e1, if_neg e2, if_pos e3]; exact enters_of Try.func90 (by kernel_rfl) rfl
  by_cases e4 : k = 4
  · rw [if_neg e1, if_neg e2, if_neg e3, if_pos e4]; exact enters_of Try.func92 (by kernel_rfl) rfl
  by_cases e5 : k = 5
  · rw [if_neg e1, if_neg e2, if_neg e3, if_neg e4, if_pos e5]; exact enters_of Try.func93 (by kernel_rfl) rfl
  by_cases e6 : k = 6
  · rw [if_neg e1, if_neg e2, if_neg e3, if_neg e4, if_neg e5, if_pos e6]; exact enters_of Try.func95 (by kernel_rfl) rfl
  by_cases e7 : k = 7
  · rw [if_neg e1, if_neg e2, if_neg e3, if_neg e4, if_neg e5, if_neg e6, if_pos e7]; exact enters_of Try.func98 (by kernel_rfl) rfl
  by_cases e8 : k = 8
  · rw [if_neg e1, if_neg e2, if_neg e3, if_neg e4, if_neg e5, if_neg e6, if_neg e7, if_pos e8]; exact enters_of Try.func101 (by kernel_rfl) rfl
  by_cases e9 : k = 9
  · rw [if_neg e1, if_neg e2, if_neg e3, if_neg e4, if_neg e5, if_neg e6, if_neg e7, if_neg e8, if_pos e9]; exact enters_of Try.func103 (by kernel_rfl) rfl
  by_cases e10 : k = 10
  · rw [if_neg e1, if_neg e2, if_neg e3, if_neg e4, if_neg e5, if_neg e6, if_neg e7, if_neg e8, if_neg e9, if_pos e10]; exact enters_of Try.func105 (by kernel_rfl) rfl
  rw [if_neg e1, if_neg e2, if_neg e3, if_neg e4, if_neg e5, if_neg e6, if_neg e7, if_neg e8, if_neg e9, if_neg e10]
  exact enters_of Try.func83 (by kernel_rfl) rfl

set_option maxRecDepth 100000 in
set_option maxHeartbeats 4000000 in
theorem fault_in (n : Nat) (hn : 5 ≤ n) (F : Fo) (W : World) (hf : Fit E F (E 3)) (hs : F.Subs W (fun b => b < W.heap.size)) (hsz : F.size ≤ 16777216) :
    CallsIn Fence.wide n Try.prog 23 #[.agg F.vals.toArray] W (CfP (rdK F) W) := by
  have h1 : 1 ≤ n := by omega
  obtain ⟨d, hdd⟩ : ∃ d : Nd, d = ⟨W.heap.size, 0, F⟩ := ⟨_, rfl⟩
  obtain ⟨T, hT⟩ : ∃ T, T = rdK F := ⟨_, rfl⟩
  rw [← hT]
  obtain ⟨k, nm, mn, la, ln, lc, lk, na, nn, nc, nk, ka, kn, kc, kk, aa, an, ac, ak, hxe, -⟩ := core_open hf
  have hvs : F.vals = [.int .i64 k, .string nm, .bool mn, .slice la ln lc, .slice na nn nc, .slice ka kn kc, .slice aa an ac] := by rw [hxe]; rfl
  rw [hvs]
  obtain ⟨Wb, hWb⟩ : ∃ V, W.alloc (.cells #[.int .i64 k, .string nm, .bool mn, .slice la ln lc, .slice na nn nc, .slice ka kn kc, .slice aa an ac] 36) = V := ⟨_, rfl⟩
  have bb : Below W.heap.size W Wb := by rw [← hWb]; exact below_alloc1 _ _
  have zb : Wb.heap.size = W.heap.size + 1 := by rw [← hWb]; simp
  have qb : Bx Wb W.heap.size F.vals := by rw [← hWb, hvs]; exact Bx.new _ _ _
  have hd : d.Ok Wb (fun b => b < Wb.heap.size) := by
    rw [hdd]
    refine ⟨hf, ?_, (hs.below bb (fun b hb => hb)).mono (fun b hb => ?_), ?_⟩
    · intro i v hv
      have := qb.cel i v hv
      simpa using this
    · show b < Wb.heap.size
      omega
    · show W.heap.size < Wb.heap.size
      omega
  have hdp : d.ptr = .pointer (some ⟨W.heap.size, 0, none⟩) := by rw [hdd]; rfl
  have hdx : d.x = F := by rw [hdd]
  have hsd : d.x.size ≤ 16777216 := by rw [hdx]; exact hsz
  have k0 := below_alloc1 Wb (.cells #[.int .i64 0] 2)
  have hd0 : d.Ok (Wb.alloc (.cells #[.int .i64 0] 2)) (fun b => b < (Wb.alloc (.cells #[.int .i64 0] 2)).heap.size) := by
    have h := hd.kept (Kept.of_below (S := fun b => b < Wb.heap.size) k0 (fun b _ hb => hb)) (fun b hb => ⟨hb, hb⟩)
    exact ⟨h.fit, h.cel, h.subs.mono (fun b hb => by rw [World.size_alloc]; omega), by have := h.at_; rw [World.size_alloc]; omega⟩
  have HLG := hide (large_in (n - 1) (by omega) d _ hd0 hsd)
  rw [hdp] at HLG
  have HWB := hide hWb
  have HWZ := hide zb
  clear hWb
  refine callsIn_of_wp_marks Try.func23 rfl trivial ?_ rfl
  simp only [Try.ntmps23, List.size_toArray, List.length_cons, List.length_nil, Nat.reduceAdd, Nat.reduceSub, Array.replicate_succ, Array.replicate_zero, List.push_toArray, List.append_toArray, List.nil_append, List.cons_append]
  have hpf := pre_one hd
  have hCO := fun V => i_coresOf d V
  rw [hdp] at hCO
  have HCO := hide hCO
  rw [hdx, ← hT] at hpf
  obtain ⟨LL, hLL⟩ : ∃ LL, LL = preL [d] 1 := ⟨_, rfl⟩
  rw [← hLL] at hpf HLG
  have hTl : T.len = 1 := by rw [hT, hxe, rdK_nd, rdK_nil]; rfl
  have hOK : okC T ↔ ((1 + sumT LL LL.length ≤ 20000 ∧ ∀ e, e ∈ LL → e.1 ≤ 1000) ∧ ∀ e, e ∈ LL → (rdK e.2.x).top) := by
    have e1 : sumT LL LL.length = T.cw := by unfold sumT; rw [List.take_length]; exact hpf.sum
    rw [e1]
    constructor
    · rintro ⟨⟨g1, g2⟩, g3⟩
      have := cw_le T
      exact ⟨⟨by omega, hpf.dep1 (by omega)⟩, hpf.good.2 g3⟩
    · rintro ⟨⟨g1, g2⟩, g3⟩
      have h3 := hpf.good.1 g3
      have := cw_eq T h3
      have := hpf.dep2 (by omega) g2
      exact ⟨⟨by omega, by omega⟩, h3⟩
  have HOK := hide hOK
  have HEZ : Hid (W.heap.size + 1 = Wb.heap.size) := zb.symm
  have HLL := hide hLL
  have HPF := hide hpf
  have HDP := hide hdp
  have HDX := hide hdx
  clear hOK zb hLL hpf hT hxe hCO hTl hdd hdx hvs hdp hf hs hsz qb
  gi_wp2_with fail
  refine ⟨trivial, ?_⟩
  rw [HWB.out]
  refine HLG.out.mono ?_
  rintro e w1 ⟨b1, q, rfl, hq⟩
  have hr0 : Hold Wb Wb.heap.size (.int .i64 0) (fun _ => False) w1 := by
    have hb1 : Below Wb.heap.size Wb w1 := k0.trans (b1.mono k0.size)
    refine ⟨(b1.cell (p := ⟨Wb.heap.size, 0, none⟩) (by simp)).trans (by simp), (b1.frozen (p := ⟨Wb.heap.size, 0, none⟩) (by simp)).trans (by simp), fun z => z, hb1, fun _ z => z.elim⟩
  obtain ⟨r1, r2, -, r4, -⟩ := id hr0
  rw [HEZ.out]
  clear HLG hd0 k0 b1
  cases q with
  | true =>
    have HN : Hid (¬ okC T) := fun h => absurd (hq.2 (HOK.out.1 h).1) (by simp)
    clear hq
    gi_wp2_with fail
    have hs1 := hr0.set (.int .i64 1) (Nat.le_refl _)
    exact ⟨.int .i64 1, by simp [results, Try.results23, go_sem, hs1.1], 1, rfl, ⟨fun h => absurd h (by decide), fun h => absurd h HN.out⟩, bb.trans (hs1.2.2.2.1.mono bb.size)⟩
  | false =>
    have HA := hide (hq.1 rfl)
    clear hq
    have hw1 := hr0.2.2.2.1
    have zw1 : Wb.heap.size + 1 ≤ w1.heap.size := block_lt_of_cell r1
    gi_wp2_with (refine ⟨trivial, ?_⟩; gi_at_call 46; refine (callsIn_wide.2 (HCO.out _)).mono ?_; rintro e w' ⟨rfl, rfl⟩)
    obtain ⟨W0, hW0⟩ : ∃ V, (w1.alloc (.cells #[.pointer (some ⟨W.heap.size, 0, none⟩)] 58)).alloc (.cells #[.func (.func 56) #[] #[]] 111) = V := ⟨_, rfl⟩
    have z0 : W0.heap.size = w1.heap.size + 2 := by rw [← hW0]; simp
    have kb0 : Below w1.heap.size w1 W0 := by rw [← hW0]; exact below_alloc2 _ _ _
    have hrb : W0.cell? ⟨w1.heap.size, 0, none⟩ = some d.ptr := by
      rw [HDP.out, ← hW0]
      have k := below_alloc1 (w1.alloc (.cells #[.pointer (some ⟨W.heap.size, 0, none⟩)] 58)) (.cells #[.func (.func 56) #[] #[]] 111)
      exact (k.cell (p := ⟨w1.heap.size, 0, none⟩) (by simp)).trans (by simp)
    have hfb : W0.cell? ⟨w1.heap.size + 1, 0, none⟩ = some (.func (.func 56) #[] #[]) := by
      rw [← hW0]
      have e : w1.heap.size + 1 = (w1.alloc (.cells #[.pointer (some ⟨W.heap.size, 0, none⟩)] 58)).heap.size := by simp
      rw [e]
      simp
    have hB0 : Below Wb.heap.size Wb W0 := hw1.trans (kb0.mono hw1.size)
    have hdok0 : d.Ok W0 (fun b => b < Wb.heap.size) := hd.kept (Kept.of_below (S := fun b => b < Wb.heap.size) hB0 (fun b _ hb => hb)) (fun b hb => ⟨hb, hb⟩)
    have hLn : LL.length ≤ 16777216 := Nat.le_trans HPF.out.len (by have := hsd; rw [HDX.out] at this; exact this)
    have hall : ∀ e ∈ LL, e.2.Ok Wb (fun b => b < Wb.heap.size) ∧ e.2.x.size ≤ 16777216 := by
      rw [HLL.out]
      exact pre_ok [d] 1 (fun n hn' => by rw [List.mem_singleton] at hn'; subst hn'; exact ⟨hd, hsd⟩)
    have hNL : (preL [d] 1).length = LL.length := by rw [HLL.out]
    have hseq := nodes_seq (n - 1) (by omega) w1.heap.size Wb.heap.size d W0 (w1.heap.size + 1) hfb (by omega) hrb hdok0 hsd LL.length hNL hLn
    rw [← HLL.out] at hseq
    have hr00 : Hold Wb Wb.heap.size (.int .i64 0) (fun _ => False) W0 := hr0.next kb0
    rw [hW0]
    clear hW0
    have fin : ∀ (D : Nat) (A : Act) (c : Int) (V : World), (A = { tmps := A.tmps, defers := [{ target := .collected D, args := #[] }] } ∧ A.tmps[2]? = some (.pointer (some ⟨Wb.heap.size, 0, none⟩))) → W0.heap.size ≤ D → V.heap[D]? = some (.deferred (some [])) →
        V.cell? ⟨Wb.heap.size, 0, none⟩ = some (.int .i64 c) → Below Wb.heap.size Wb V → (c = 0 ↔ okC T) → bodyPostM Fence.wide n Try.prog Try.f23 (CfP T W) .ret A V := by
      rintro D ⟨tm, df⟩ c V ⟨hA, h4⟩ hD hK hq bl hqq
      cases hA
      refine ⟨by simp, .inl ⟨_, _, rfl, run_takeDeferred hK, ?_⟩⟩
      have q' := ((Kept.putObj (fun c => c ≠ D) V D (.deferred none) (by simp)).cell (p := ⟨Wb.heap.size, 0, none⟩) (block_lt_of_cell hq) (by show Wb.heap.size ≠ D; omega)).trans hq
      have bl2 := bl.trans (belowK_b (w := Wb) (Nat.le_refl _) V D _ (.deferred none) (by omega) hK rfl rfl)
      exact ⟨.int .i64 c, by simp [results, Try.results23, go_sem, h4, q'], c, rfl, hqq, bb.trans (bl2.mono bb.size)⟩
    refine wpIn_range rfl h1 (gf := 63) (lb := #[.pointer (some ⟨w1.heap.size, 0, none⟩), .pointer (some ⟨w1.heap.size + 1, 0, none⟩)]) rfl trivial (enters_of Try.func63 (by kernel_rfl) rfl)
      hseq (Below.refl _ _) (fun b hb => by rcases hb with hb | hb <;> omega) (fun _ => rfl)
      (FtI Wb LL) (FtX Wb LL) (FtI.abid _ _) (FtX.abid _ _) ⟨hr00, fun e he => absurd he (by simp)⟩
      (fun i _ a' _ => ∃ (dd : Nat) (x : Nd), LL[i]? = some (dd, x) ∧ a' = { tmps := #[.agg #[.int .i64 k, .string nm, .bool mn, .slice la ln lc, .slice na nn nc, .slice ka kn kc, .slice aa an ac], .pointer (some ⟨W.heap.size, 0, none⟩), .pointer (some ⟨Wb.heap.size, 0, none⟩), undef, .pointer (some ⟨x.b, x.o, none⟩), .bool false, .func (.func 63) #[] #[.pointer (some ⟨w1.heap.size, 0, none⟩), .pointer (some ⟨w1.heap.size + 1, 0, none⟩)], .int .i64 (dd : Int), .pointer (some ⟨x.b, x.o, none⟩), undef, undef, undef, undef], defers := [] })
      ?assign ?body ?done ?stop
    case assign =>
      intro l i O W' K hi hNB hI hK
      obtain ⟨⟨dd, x⟩, hx⟩ : ∃ e, LL[i]? = some e := ⟨_, List.getElem?_eq_getElem hi⟩
      have hv : encsOf LL i = #[.int .i64 (dd : Int), .pointer (some ⟨x.b, x.o, none⟩)] := by
        unfold encsOf
        rw [List.getD_eq_getElem?_getD, hx]
        rfl
      have HK2 := hide (hK _ _ (Kept.refl _ W') hI ⟨dd, x, hx, rfl⟩)
      clear hK hI hx fin hseq
      rw [hv]
      clear hv
      gi_wp2
      exact HK2.out
    case body =>
      rintro l i O a' W1 W' hi ⟨dd, x, hx, rfl⟩ hkp hNB ⟨hr, ht2⟩ hO
      have hxm : (dd, x) ∈ LL := List.mem_of_getElem? hx
      obtain ⟨hxok, hxsz⟩ := hall _ hxm
      obtain ⟨r1, r2, r3, r4, r5⟩ := id hr
      have hxok2 : x.Ok W' (fun b => b < W'.heap.size) := by
        have h := Nd.Ok.kept (d := x) hxok (Kept.of_below (S := fun b => b < Wb.heap.size) r4 (fun b _ hb => hb)) (fun b hb => ⟨hb, hb⟩)
        exact ⟨h.fit, h.cel, h.subs.mono (fun b hb => Nat.lt_of_lt_of_le hb r4.size), Nat.lt_of_lt_of_le h.at_ r4.size⟩
      obtain ⟨hh, ks, al, he, hck⟩ : ∃ hh ks al, rdK x.x = .nd hh ks al .nil ∧ W'.cell? ⟨x.b, x.o, none⟩ = some (.int .i64 hh.k) := by
        obtain ⟨k, nm, mn, la, ln, lc, lk, na, nn, nc, nk, ka, kn, kc, kk, aa, an, ac, ak, e, -⟩ := core_open hxok2.fit
        have hce := hxok2.cel
        rw [e] at hce
        simp only [Fo.vals] at hce
        exact ⟨_, _, _, by rw [e, rdK_nd, rdK_nil], by simpa using hce 0 _ rfl⟩
      obtain ⟨q, hq⟩ : ∃ q : Bool, q = true ↔ shp hh ks.len al := by
        by_cases h : shp hh ks.len al
        · exact ⟨true, by simp only [true_iff]; exact h⟩
        · exact ⟨false, by simp only [Bool.false_eq_true, false_iff]; exact h⟩
      have kT := below_alloc1 W' (.cells #[x.ptr] 113)
      have hxok3 : x.Ok (W'.alloc (.cells #[x.ptr] 113)) (fun b => b < (W'.alloc (.cells #[x.ptr] 113)).heap.size) := by
        have h := Nd.Ok.kept (d := x) hxok2 (Kept.of_below (S := fun b => b < W'.heap.size) kT (fun b _ hb => hb)) (fun b hb => ⟨hb, hb⟩)
        exact ⟨h.fit, h.cel, h.subs.mono (fun b hb => Nat.lt_of_lt_of_le hb kT.size), Nat.lt_of_lt_of_le h.at_ kT.size⟩
      have hTC := i_term x W' hh.k hck hxok2.at_
      have hWC := i_whole x _ hxok3 hxsz hh ks al he q hq
      have hME : (method 268 (tyK hh.k) (.agg #[x.ptr]) "loop.example/g00017/impl.isWhole").run Try.prog (W'.alloc (.cells #[x.ptr] 113)) = .ok (fnK hh.k, .agg #[x.ptr]) (W'.alloc (.cells #[x.ptr] 113)) := me_any hh.k (.agg #[x.ptr]) (W'.alloc (.cells #[x.ptr] 113))
      have hEN := enK hh.k
      have hrN : ∀ V, Below (W'.alloc (.cells #[x.ptr] 113)).heap.size (W'.alloc (.cells #[x.ptr] 113)) V → Hold Wb Wb.heap.size (.int .i64 0) O V ∧ Kept (fun b => O b ∨ b < Wb.heap.size ∨ b = w1.heap.size + 1) W' V := fun V b => ⟨(hr.next kT).next b, (Kept.of_below (S := fun b => O b ∨ b < Wb.heap.size ∨ b = w1.heap.size + 1) kT (fun b hb _ => hb)).trans (Kept.of_below b (fun b hb _ => hb))⟩
      simp only [Nd.ptr] at hTC hWC hME hrN
      have HTC := hide hTC
      have HWC := hide hWC
      have HRN := hide hrN
      have HHE := hide he
      have HHQ := hide hq
      have HX := hide hx
      clear hTC hWC hrN he hq hx hxok hxok2 hxok3 kT hck fin hseq
      gi_wp2_with fail
      refine ⟨trivial, fun _ => by omega, ?_⟩
      refine (CallsIn.inRound l (callsIn_wide.2 HTC.out)).mono ?_
      rintro e w' ⟨rfl, rfl⟩
      gi_wp2_with fail
      refine ⟨trivial, fun _ => by omega, ?_⟩
      refine (CallsIn.inRound l (callsIn_wide.2 HWC.out)).mono ?_
      rintro e w2 ⟨rfl, b2⟩
      obtain ⟨hr2, kk2⟩ := HRN.out w2 b2
      have HK2 := hide kk2
      obtain ⟨s1, s2, s3, s4, s5⟩ := id hr2
      clear b2 HWC HTC hME hEN kk2 r1 r2 r4 r5
      have HNS : Hid (¬ (O Wb.heap.size ∨ Wb.heap.size < Wb.heap.size ∨ Wb.heap.size = w1.heap.size + 1)) := fun h => by
        rcases h with h | h | h
        · exact s3 h
        · omega
        · omega
      cases q with
      | true =>
        have HEN : Hid (FtI Wb LL (i + 1) O w2) := by
          refine ⟨hr2, fun e he => ?_⟩
          rw [List.take_add_one, HX.out, List.mem_append] at he
          rcases he with he | he
          · exact ht2 e he
          · simp only [Option.toList_some, List.mem_singleton] at he
            subst he
            show (rdK x.x).top
            rw [HHE.out]
            exact HHQ.out.1 rfl
        gi_wp2_with fail
        exact ⟨HK2.out, HEN.out⟩
      | false =>
        have HEN : Hid (FtX Wb LL .ret i O (w2.setCell ⟨Wb.heap.size, 0, none⟩ (.int .i64 2))) := by
          refine ⟨rfl, hr2.set (.int .i64 2) (Nat.le_refl _), fun h => ?_⟩
          have h1 : (rdK x.x).top := h _ hxm
          rw [HHE.out] at h1
          exact absurd (HHQ.out.2 h1) (by simp)
        gi_wp2_with fail
        exact ⟨HK2.out.trans (Kept.setCell _ _ _ _ HNS.out), HEN.out⟩
    case done =>
      rintro D O W' hD hOD hO ⟨i1, i2⟩ hK
      rw [List.take_length] at i2
      obtain ⟨r1, r2, r3, r4, r5⟩ := id i1
      have hDl : D < W'.heap.size := (Array.getElem?_eq_some_iff.1 hK).1
      have HF := hide (fun A hA => fin D A 0 (W'.setCell ⟨Wb.heap.size, 0, none⟩ (.int .i64 0)) hA hD (((Kept.setCell (fun c => c ≠ Wb.heap.size) W' ⟨Wb.heap.size, 0, none⟩ (.int .i64 0) (by simp)).block D hDl (by show D ≠ _; omega)).trans hK) (i1.set (.int .i64 0) (Nat.le_refl _)).1 (i1.set (.int .i64 0) (Nat.le_refl _)).2.2.2.1 ⟨fun _ => HOK.out.2 ⟨HA.out, i2⟩, fun _ => rfl⟩)
      clear fin hseq
      gi_wp2_with fail
      exact HF.out _ ⟨rfl, rfl⟩
    case stop =>
      rintro D c i O W' hD hOD hO _ ⟨rfl, i2, i3⟩ hK
      have HF := hide (fun A hA => fin D A 2 W' hA hD hK i2.1 i2.2.2.2.1 ⟨fun h => absurd h (by decide), fun h => absurd (HOK.out.1 h).2 i3⟩)
      clear fin hseq
      gi_wp2_with fail
      exact HF.out _ ⟨rfl, rfl⟩

end Go.Proofs.Ytcnokpaicnjkfaa
