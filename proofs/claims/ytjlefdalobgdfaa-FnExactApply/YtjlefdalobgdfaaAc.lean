import Derived.Test.YtjlefdalobgdfaaAb
namespace Go.Proofs.Ytjlefdalobgdfaa
open Go.RowKit Go.Joins

/-- How far binds are searched. -/
structure SrI (W0 wr : World) (ix : Int) (L A B : List Bd) (i : Nat) : Prop where
  eq : L = A ++ B
  ln : A.length = i
  no : ∀ x ∈ A, x.id ≠ ix
  kp : Kept (fun _ => True) W0 wr

theorem SrI.next {W0 wr : World} {ix : Int} {L A B : List Bd} {x : Bd} {i : Nat} (h : SrI W0 wr ix L A (x :: B) i) (hx : x.id ≠ ix) {wx : World} (k : Kept (fun _ => True) wr wx) : SrI W0 wx ix L (A ++ [x]) B (i + 1) :=
  ⟨by rw [h.eq]; simp, by simp [h.ln], fun y hy => by
    rcases List.mem_append.1 hy with hy | hy
    · exact h.no y hy
    · have : y = x := by simpa using hy
      rw [this]
      exact hx, h.kp.trans k⟩

theorem SrI.hit {W0 wr : World} {ix : Int} {L A B : List Bd} {x : Bd} {i : Nat} (h : SrI W0 wr ix L A (x :: B) i) (hx : x.id = ix) : lookB ix L = some x.d := by
  rw [h.eq, lookB_app (lookB_none h.no)]
  simp [lookB, hx]

theorem SrI.miss {W0 wr : World} {ix : Int} {L A : List Bd} {i : Nat} (h : SrI W0 wr ix L A [] i) : lookB ix L = none := by
  rw [h.eq, List.append_nil]
  exact lookB_none h.no

set_option maxHeartbeats 4000000 in
set_option maxRecDepth 100000 in
theorem lrg_node (ba : Option Addr) (bn bc : Nat) (L : List Bd) : ∀ (m : Nat) (ks : Fo), ks.size < m → ∀ (k ix : Int) (nm : ByteArray) (d : Nat) (left : Int) (n0 lb : Nat) (W : World) (a : Option Addr) (cap : Nat), n0 ≤ lb → lb < W.heap.size → d ≤ 201 → 0 ≤ left → left ≤ 20000 →
    BL W n0 ba bn bc L → ks.Sl W (fun b => b < n0) a cap → W.cell? ⟨lb, 0, none⟩ = some (.int .i64 left) → W.frozen? ⟨lb, 0, none⟩ = false →
    Calls Try.prog 54 #[.slice ba bn bc, nodeV k ix nm a ks.len cap, .int .i64 (d : Int), .pointer (some ⟨lb, 0, none⟩)] W fun e W' => FltP W W' lb left ((Fo.cons k ix nm a cap ks .nil).gd L d) ((Fo.cons k ix nm a cap ks .nil).cn L) e := by
  intro m
  induction m with
  | zero => intro F hF; omega
  | succ m ih =>
    intro ks hF k ix nm d left n0 lb W a cap hn hlb hd h0 h1 hbl hs hc hf
    unfold nodeV
    obtain ⟨W0, hW0⟩ : ∃ V, W.alloc (.cells #[.int .i64 k, .int .i64 ix, .string nm, .slice a ks.len cap] 29) = V := ⟨_, rfl⟩
    have k0 : Kept (fun _ => True) W W0 := by rw [← hW0]; exact Kept.alloc _ _ _
    have q := Box4.new W (.int .i64 k) (.int .i64 ix) (.string nm) (.slice a ks.len cap) 29
    rw [hW0] at q
    have hmx : bn ≤ 9223372036854775807 := by have h2 := hbl.le; have h3 := hbl.mx; simp only [maxLen] at h3; omega
    have HBL0 := hide (hbl.kept k0 (fun _ _ => trivial) (by omega))
    have HK0 := hide k0
    have HQ := hide q
    have HW0 := hide hW0
    have HIH := hide ih
    have HS0 : Hid (ks.Sl W0 (fun b => b < n0) a cap) := hs.kept k0 (fun b x => ⟨trivial, by omega⟩)
    have HC0 : Hid (W0.cell? ⟨lb, 0, none⟩ = some (.int .i64 left) ∧ W0.frozen? ⟨lb, 0, none⟩ = false) := ⟨(k0.cell (p := ⟨lb, 0, none⟩) hlb trivial).trans hc, (k0.frozen (p := ⟨lb, 0, none⟩) hlb trivial).trans hf⟩
    have x0 := q.c0
    have hz0 : Hid (n0 ≤ W0.heap.size ∧ lb < W0.heap.size) := by have := k0.size; exact ⟨by omega, by omega⟩
    clear hbl k0 q hW0 ih hs hc hf
    cases hsb : sb L k ix with
    | some e =>
      have hk : k = 1 := by
        unfold sb at hsb
        split at hsb
        · assumption
        · cases hsb
      subst hk
      have hlk : lookB ix L = some e := by simpa [sb] using hsb
      have HGD : Hid ((((Fo.cons 1 ix nm a cap ks .nil).gd L d) ↔ e.fo.good d) ∧ (Fo.cons 1 ix nm a cap ks .nil).cn L = 1 + e.ks.size) := by
        refine ⟨?_, ?_⟩
        · simp only [Fo.gd, hsb, and_true]
        · simp only [Fo.cn, hsb, Nat.add_zero]
      have HLK := hide hlk
      clear hsb hlk
      go_enter Try.func54, Try.ntmps54
      go_wp2_with fail
      rw [HW0.out]
      clear HW0
      go_loopw [9] (fun s9 wr => ∃ (i : Nat) (A B : List Bd), s9 = .int .i64 i ∧ i ≤ bn ∧ Hid (SrI W0 wr ix L A B i)) (fun s9 _ => bn - (intOf s9).toNat)
      case atStart => exact ⟨0, [], L, rfl, Nat.zero_le _, rfl, rfl, fun x hx => absurd hx List.not_mem_nil, Kept.refl _ _⟩
      case round =>
        obtain ⟨i, A, B, rfl, hin, hA⟩ := hrel
        cases B with
        | nil => exact absurd (hA.out.miss.symm.trans HLK.out) (by simp)
        | cons x B =>
          have hi : i < bn := by have h1 := hA.out.eq; have h2 := HBL0.out.ln; have h3 := hA.out.ln; rw [h1, List.length_append, List.length_cons] at h2; omega
          have hii : (i : Int) < bn := by omega
          have hx : L[i]? = some x := by rw [hA.out.eq, ← hA.out.ln]; simp
          have HBLr := hide (HBL0.out.kept hA.out.kp (fun _ _ => trivial) hz0.out.1)
          obtain ⟨b, o, rfl, hb, hg⟩ := HBLr.out.at_ (by omega)
          have hgx := hg i x hx
          have y : wr.cell? ⟨b, o + i * 5, none⟩ = some (.int .i64 x.id) := hgx.c
          have qr := HQ.out.kept hA.out.kp trivial
          have xi := qr.ci
          have HGX := hide hgx
          have HQR := hide qr
          clear hg hgx qr
          by_cases hid : x.id = ix
          · have he : x.d = e := by have := hA.out.hit hid; rw [HLK.out] at this; exact (Option.some.inj this).symm
            have hidb : decide (x.id = ix) = true := by simp [hid]
            have HKR : Hid (Kept (fun b => b ≠ lb) W wr) := (HK0.out.mono (fun _ _ _ => trivial)).trans (hA.out.kp.mono (fun _ _ _ => trivial))
            have HCR : Hid (∀ wx, Kept (fun _ => True) wr wx → Calls Try.prog 44 #[.agg #[.int .i64 e.k, .int .i64 e.ix, .string e.nm, .slice e.a e.ks.len e.cap], .int .i64 (d : Int), .pointer (some ⟨lb, 0, none⟩)] wx fun r W' => FltP W W' lb left ((Fo.cons 1 ix nm a cap ks .nil).gd L d) ((Fo.cons 1 ix nm a cap ks .nil).cn L) r) := fun wx kx => by
              have kk := hA.out.kp.trans kx
              have hzz := kk.size
              have hz := hz0.out
              have hsl := (HGX.out.at_.sl).kept kx (fun c hc => ⟨trivial, by have := hA.out.kp.size; omega⟩)
              rw [he] at hsl
              have h := flt_node _ e.ks (Nat.lt_succ_self _) e.k e.ix e.nm d left n0 lb wx e.a e.cap hn (by omega) hd h0 h1 hsl ((kk.cell (p := ⟨lb, 0, none⟩) hz.2 trivial).trans HC0.out.1) ((kk.frozen (p := ⟨lb, 0, none⟩) hz.2 trivial).trans HC0.out.2)
              unfold nodeV at h
              refine h.mono (fun r W' hr => ?_)
              unfold FltP at hr ⊢
              rw [HGD.out.2]
              have hg := HGD.out.1
              have ee : (Fo.cons e.k e.ix e.nm e.a e.cap e.ks .nil) = e.fo := rfl
              rw [ee] at hr
              refine ⟨(HKR.out.trans (kx.mono (fun _ _ _ => trivial))).trans hr.1, ?_⟩
              rcases hr.2 with ⟨r1, r2, r3, r4, r5⟩ | ⟨r1, r2⟩
              · exact .inl ⟨r1, hg.2 r2, r3, r4, r5⟩
              · exact .inr ⟨r1, fun hh => r2 ⟨hg.1 hh.1, hh.2⟩⟩
            have HD : Hid (∀ wx, Kept (fun _ => True) wr wx → wx.cell? ⟨b, o + i * 5 + 1, none⟩ = some (.int .i64 e.k) ∧ wx.cell? ⟨b, o + i * 5 + 1 + 1, none⟩ = some (.int .i64 e.ix) ∧ wx.cell? ⟨b, o + i * 5 + 1 + 2, none⟩ = some (.string e.nm) ∧ wx.cell? ⟨b, o + i * 5 + 1 + 3, none⟩ = some (.slice e.a e.ks.len e.cap)) := fun wx kx => by
              have hzr := hA.out.kp.size
              have hz := hz0.out
              have h := HGX.out.at_.kept kx (fun _ _ => trivial) hb (by omega)
              rw [he] at h
              exact ⟨h.c0, h.ci, h.c1, h.c2⟩
            clear hA HGX HQR he hx HKR
            go_upto_region 5 with fail
            go_cut [27] (fun s27 wx => s27 = .bool true ∧ Kept (fun _ => True) wr wx)
            case first =>
              go_region
              go_wp2_with fail
              go_meet
              case rel => exact ⟨by simp, Kept.drew _ _⟩
            case rest =>
              obtain ⟨rfl, hcb⟩ := hcut
              rename World => wx
              obtain ⟨y0, y1, y2, y3⟩ := HD.out wx hcb
              have HCX := hide (HCR.out wx hcb)
              clear HCR HD hcb
              go_wp2_with fail
              refine HCX.out.mono ?_
              intro r w1 hr
              have hr' := hr
              obtain ⟨hk1, (⟨rfl, -⟩ | ⟨rfl, -⟩)⟩ := hr
              · have HR := hide hr'
                clear hr' hk1
                go_wp2_with fail
                go_ret
                exact HR.out
              · have HR := hide hr'
                clear hr' hk1
                go_wp2_with fail
                go_ret
                exact HR.out
          · have hidb : decide (x.id = ix) = false := by simp [hid]
            have HN : Hid (∀ wx, Kept (fun _ => True) wr wx → SrI W0 wx ix L (A ++ [x]) B (i + 1)) := fun wx kx => hA.out.next hid kx
            clear hA HGX HQR hx
            go_upto_region 5 with fail
            go_cut [27] (fun s27 wx => s27 = .bool false ∧ Kept (fun _ => True) wr wx)
            case first =>
              go_region
              go_wp2_with fail
              go_meet
              case rel => exact ⟨by simpa using hid, Kept.drew _ _⟩
            case rest =>
              obtain ⟨rfl, hcb⟩ := hcut
              rename World => wx
              have HN' := hide (HN.out wx hcb)
              clear HN hcb
              go_wp2_with fail
              go_roundw
              case rel => exact ⟨i + 1, _, B, by go_num, by omega, HN'.out⟩
              case measure => simp [intOf]; omega
    | none =>
      have hmk : ks.len ≤ 9223372036854775807 := by have h2 := HS0.out.1; have h3 := HS0.out.2.1; simp only [maxLen] at h3; omega
      have HGD : Hid ((((Fo.cons k ix nm a cap ks .nil).gd L d) ↔ (d ≤ 200 ∧ ks.gd L (d + 1))) ∧ (Fo.cons k ix nm a cap ks .nil).cn L = 1 + ks.cn L) := by
        refine ⟨?_, ?_⟩
        · simp only [Fo.gd, hsb, and_true]
        · simp only [Fo.cn, hsb, Nat.add_zero]
      go_enter Try.func54, Try.ntmps54
      go_upto_if 13 with fail
      rw [HW0.out]
      clear HW0
      go_cut [] (fun wx => Kept (fun _ => True) W0 wx)
      case first =>
        by_cases hk : k = 1
        · have hlk : lookB ix L = none := by simpa [sb, hk] using hsb
          have HLK := hide hlk
          clear hsb hlk
          have hkb : decide (k = 1) = true := by simp [hk]
          go_wp2_with fail
          go_loopw [9] (fun s9 wr => ∃ (i : Nat) (A B : List Bd), s9 = .int .i64 i ∧ i ≤ bn ∧ Hid (SrI W0 wr ix L A B i)) (fun s9 _ => bn - (intOf s9).toNat)
          case atStart => exact ⟨0, [], L, rfl, Nat.zero_le _, rfl, rfl, fun x hx => absurd hx List.not_mem_nil, Kept.refl _ _⟩
          case round =>
            obtain ⟨i, A, B, rfl, hin, hA⟩ := hrel
            cases B with
            | nil =>
              have hi : i = bn := by have h1 := hA.out.eq; have h2 := HBL0.out.ln; have h3 := hA.out.ln; rw [h1, List.append_nil] at h2; omega
              subst hi
              have HKR := hide hA.out.kp
              clear hA
              go_wp2_with fail
              go_meet
              case rel => exact HKR.out
            | cons x B =>
              have hi : i < bn := by have h1 := hA.out.eq; have h2 := HBL0.out.ln; have h3 := hA.out.ln; rw [h1, List.length_append, List.length_cons] at h2; omega
              have hii : (i : Int) < bn := by omega
              have hx : L[i]? = some x := by rw [hA.out.eq, ← hA.out.ln]; simp
              obtain ⟨b, o, rfl, hb, hg⟩ := (HBL0.out.kept hA.out.kp (fun _ _ => trivial) hz0.out.1).at_ (by omega)
              have y : wr.cell? ⟨b, o + i * 5, none⟩ = some (.int .i64 x.id) := (hg i x hx).c
              have xi := (HQ.out.kept hA.out.kp trivial).ci
              have hid : x.id ≠ ix := fun e => by have := hA.out.hit e; rw [HLK.out] at this; cases this
              have HN : Hid (∀ wx, Kept (fun _ => True) wr wx → SrI W0 wx ix L (A ++ [x]) B (i + 1)) := fun wx kx => hA.out.next hid kx
              clear hA hx hg
              go_upto_region 5 with fail
              go_cut [27] (fun s27 wx => s27 = .bool false ∧ Kept (fun _ => True) wr wx)
              case first =>
                go_region
                go_wp2_with fail
                go_meet
                case rel => exact ⟨by simpa using hid, Kept.drew _ _⟩
              case rest =>
                obtain ⟨rfl, hcb⟩ := hcut
                rename World => wx
                have HN' := hide (HN.out wx hcb)
                clear HN hcb
                go_wp2_with fail
                go_roundw
                case rel => exact ⟨i + 1, _, B, by go_num, by omega, HN'.out⟩
                case measure => simp [intOf]; omega
        · have hkb : decide (k = 1) = false := by simp [hk]
          go_wp2_with fail
          go_meet
          case rel => exact Kept.refl _ _
      case rest =>
        rename World => wx
        have hzx := hcut.size
        have hz := hz0.out
        have c1 := (hcut.cell (p := ⟨lb, 0, none⟩) hz.2 trivial).trans HC0.out.1
        have f1 := (hcut.frozen (p := ⟨lb, 0, none⟩) hz.2 trivial).trans HC0.out.2
        have HKX : Hid (Kept (fun b => b ≠ lb) W wx) := (HK0.out.mono (fun _ _ _ => trivial)).trans (hcut.mono (fun _ _ _ => trivial))
        have hqlt := HQ.out.lt
        have qx := HQ.out.kept hcut trivial
        obtain ⟨V, hV⟩ : ∃ V, wx.setCell ⟨lb, 0, none⟩ (.int .i64 (left - 1)) = V := ⟨_, rfl⟩
        have kV : Kept (fun b => b ≠ lb) wx V := by rw [← hV]; exact Kept.setCell _ _ _ _ (by simp)
        have cV : V.cell? ⟨lb, 0, none⟩ = some (.int .i64 (left - 1)) := by rw [← hV]; exact World.cell?_setCell_same' _ _ _ (by rw [c1]; rfl)
        have fV : V.frozen? ⟨lb, 0, none⟩ = false := by rw [← hV, World.frozen?_setCell]; exact f1
        have HKV : Hid (Kept (fun b => b ≠ lb) W V) := HKX.out.trans kV
        have qV := qx.kept kV (by omega)
        have HSV : Hid (ks.Sl V (fun b => b < n0) a cap) := (HS0.out.kept hcut (fun b x => ⟨trivial, by omega⟩)).kept kV (fun b x => ⟨by omega, by omega⟩)
        have HBLV := hide ((HBL0.out.kept hcut (fun _ _ => trivial) hz.1).kept kV (fun c hc => by omega) (by omega))
        have HV := hide hV
        have HFV := hide fV
        have HCV := hide cV
        have HQV := hide qV
        have hzV : Hid (W.heap.size < V.heap.size ∧ lb < V.heap.size ∧ n0 ≤ V.heap.size) := by have := kV.size; have := HK0.out.size; exact ⟨by omega, by omega, by omega⟩
        clear hcut HBL0 HC0 HS0 HQ hz0 hz qx kV hV hsb qV fV HKX
        by_cases hl : left = 0
        · subst hl
          have HV' : Hid (wx.setCell ⟨lb, 0, none⟩ (.int .i64 (-1)) = V) := HV.out
          have cV' : V.cell? ⟨lb, 0, none⟩ = some (.int .i64 (-1)) := cV
          clear cV HV
          go_upto_region 8 with fail
          rw [HV'.out]
          clear HV'
          go_wp2_with fail
          go_ret
          exact ⟨HKV.out, .inr ⟨rfl, fun h => by rw [HGD.out.2] at h; omega⟩⟩
        · by_cases hd2 : d = 201
          · subst hd2
            have hl1 : ¬ left - 1 < 0 := by omega
            have hl1b : decide (left - 1 < 0) = false := by simp; omega
            go_upto_region 8 with fail
            rw [HV.out]
            clear HV
            go_wp2_with fail
            go_ret
            exact ⟨HKV.out, .inr ⟨rfl, fun h => by have := (HGD.out.1.1 h.1).1; omega⟩⟩
          · have hl1 : ¬ left - 1 < 0 := by omega
            have hl1b : decide (left - 1 < 0) = false := by simp; omega
            have hd3 : ¬ (200 : Int) < (d : Int) := by omega
            go_upto_region 8 with fail
            rw [HV.out]
            clear HV
            go_wp2_with fail
            go_loopw [10] (fun s10 wr => ∃ (i c : Nat) (r : Fo), s10 = .int .i64 i ∧ Hid (r.len + i = ks.len ∧ r.size ≤ ks.size ∧ c + r.cn L = ks.cn L ∧ (c : Int) ≤ left - 1 ∧ (ks.gd L (d + 1) ↔ r.gd L (d + 1))) ∧
              Hid (0 < r.len → ∃ b o, a = some ⟨b, o, none⟩ ∧ b < n0 ∧ r.Row wr (fun b => b < n0) b (o + i * 4)) ∧ Hid (wr.cell? ⟨lb, 0, none⟩ = some (.int .i64 (left - 1 - c)) ∧ wr.frozen? ⟨lb, 0, none⟩ = false ∧ Kept (fun b => b ≠ lb) V wr)) (fun s10 _ => ks.len - (intOf s10).toNat)
            case atStart => exact ⟨0, 0, ks, rfl, ⟨rfl, Nat.le_refl _, by omega, by omega, Iff.rfl⟩, by unfold Hid; simpa using HSV.out.2.2, ⟨by rw [HCV.out]; simp, HFV.out, Kept.refl _ _⟩⟩
            case round =>
              obtain ⟨i, c, r, rfl, hP, hrow, hC⟩ := hrel
              obtain ⟨hri, hrs, hcs, hcl, hgd⟩ := hP.out
              obtain ⟨e1, e2, e3⟩ := hC.out
              have hz := hzV.out
              have hz3 := e3.size
              have qr := HQV.out.kept e3 (by omega)
              have d2 := qr.c2
              cases r with
              | nil =>
                simp only [Fo.len, Fo.cn] at hri hcs
                have hii : ¬ (i : Int) < ks.len := by omega
                have HE : Hid (FltP W wr lb left ((Fo.cons k ix nm a cap ks .nil).gd L d) ((Fo.cons k ix nm a cap ks .nil).cn L) (.returned (.bool false))) := by
                  refine ⟨HKV.out.trans e3, .inl ⟨rfl, HGD.out.1.2 ⟨by omega, hgd.2 trivial⟩, by rw [HGD.out.2]; omega, ?_, e2⟩⟩
                  rw [e1, HGD.out.2]
                  congr 2
                  omega
                clear hP hrow hC e1 e2 e3 qr
                go_wp2_with fail
                go_ret
                exact HE.out
              | cons k' ix' nm' ka kcap ks' r =>
                simp only [Fo.len, Fo.size] at hri hrs
                have hii : (i : Int) < ks.len := by omega
                obtain ⟨b, o, rfl, hb, hk, hix, hnm', c1, ci, c2, c3, h4, h5, h6, h7⟩ := hrow.out (by simp [Fo.len])
                have hks : ks'.Sl wr (fun b => b < n0) ka kcap := ⟨h4, h5, h6⟩
                have hcn : (Fo.cons k' ix' nm' ka kcap ks' r).cn L = (Fo.cons k' ix' nm' ka kcap ks' .nil).cn L + r.cn L := by
                  simp only [Fo.cn]
                  split <;> simp only [Nat.add_zero]
                have hgc : (Fo.cons k' ix' nm' ka kcap ks' r).gd L (d + 1) ↔ (Fo.cons k' ix' nm' ka kcap ks' .nil).gd L (d + 1) ∧ r.gd L (d + 1) := by
                  simp only [Fo.gd]
                  split <;> simp only [and_true, and_assoc]
                have HCB := hide (HIH.out ks' (by omega) k' ix' nm' (d + 1) (left - 1 - c) n0 lb wr ka kcap hn (by omega) (by omega) (by omega) (by omega) (HBLV.out.kept e3 (fun x hx => by omega) hz.2.2) hks e1 e2)
                unfold nodeV at HCB
                have H7 := hide h7
                have HE3 := hide e3
                clear hP hrow hC e1 e2 e3 qr h4 h5 h6 h7 hks
                go_wp2_with fail
                refine HCB.out.mono ?_
                rintro e w1 ⟨k1, (⟨rfl, g1, n1, c1', f1'⟩ | ⟨rfl, g1⟩)⟩
                · have HN : Hid ((r.len + (i + 1) = ks.len ∧ r.size ≤ ks.size ∧ c + (Fo.cons k' ix' nm' ka kcap ks' .nil).cn L + r.cn L = ks.cn L ∧ ((c + (Fo.cons k' ix' nm' ka kcap ks' .nil).cn L : Nat) : Int) ≤ left - 1 ∧ (ks.gd L (d + 1) ↔ r.gd L (d + 1)))) :=
                    ⟨by omega, by omega, by omega, by omega, by rw [hgd, hgc]; exact ⟨fun h => h.2, fun h => ⟨g1, h⟩⟩⟩
                  have HRW : Hid (0 < r.len → ∃ b' o', some (⟨b, o, none⟩ : Addr) = some ⟨b', o', none⟩ ∧ b' < n0 ∧ r.Row w1 (fun b => b < n0) b' (o' + (i + 1) * 4)) := fun _ => ⟨b, o, rfl, hb, by
                    have e : o + (i + 1) * 4 = o + i * 4 + 4 := by omega
                    rw [e]
                    exact H7.out.keep (fun _ x => x) (fun p hp v hv => (k1.cell (p := p) (by have : p.block < n0 := hp; omega) (by have : p.block < n0 := hp; show p.block ≠ lb; omega)).trans hv) (fun j _ _ v hv => (k1.cell (p := ⟨b, j, none⟩) (by show b < _; omega) (by show b ≠ lb; omega)).trans hv)⟩
                  have HCC : Hid (w1.cell? ⟨lb, 0, none⟩ = some (.int .i64 (left - 1 - ((c + (Fo.cons k' ix' nm' ka kcap ks' .nil).cn L : Nat) : Int))) ∧ w1.frozen? ⟨lb, 0, none⟩ = false ∧ Kept (fun b => b ≠ lb) V w1) := ⟨by rw [c1']; congr 2; omega, f1', HE3.out.trans k1⟩
                  clear k1 g1 n1 c1' f1' hgc hcn hgd hcs
                  go_wp2_with fail
                  go_roundw
                  case rel => exact ⟨i + 1, _, r, by go_num, HN, HRW, HCC⟩
                  case measure => simp [intOf]; omega
                · have HE : Hid (FltP W w1 lb left ((Fo.cons k ix nm (some ⟨b, o, none⟩) cap ks .nil).gd L d) ((Fo.cons k ix nm (some ⟨b, o, none⟩) cap ks .nil).cn L) (.returned (.bool true))) := by
                    refine ⟨(HKV.out.trans HE3.out).trans k1, .inr ⟨rfl, fun h => g1 ⟨?_, ?_⟩⟩⟩
                    · exact (hgc.1 (hgd.1 (HGD.out.1.1 h.1).2)).1
                    · have := h.2
                      rw [HGD.out.2] at this
                      omega
                  clear k1 g1 hgc hcn hgd hcs
                  go_wp2_with fail
                  go_ret
                  exact HE.out

end Go.Proofs.Ytjlefdalobgdfaa
