import Derived.Test.YtjlefdalobgdfaaAc
namespace Go.Proofs.Ytjlefdalobgdfaa
open Go.RowKit Go.Joins

set_option maxHeartbeats 4000000 in
set_option maxRecDepth 100000 in
theorem app_var (ba : Option Addr) (bn bc : Nat) (L : List Bd) (hL : ∀ x ∈ L, x.d.ks.size ≤ 1048576) (ix : Int) (nm : ByteArray) (n0 : Nat) (W : World) (a : Option Addr) (cap : Nat) (hn : n0 ≤ W.heap.size) (hix : (Lit.int .i64 ix).wf = true) (hnm : nm.size ≤ maxLen) (hc : cap ≤ maxLen) (hbl : BL W n0 ba bn bc L) :
    Calls Try.prog 55 #[.slice ba bn bc, .agg #[.int .i64 1, .int .i64 ix, .string nm, .slice a 0 cap]] W fun e W' => ∃ v', e = .returned v' ∧ ∃ d : Nd, v' = d.v ∧ d.fo.sim ((Fo.cons 1 ix nm a cap .nil .nil).ap L) ∧ d.Ok W' (fun c => W.heap.size ≤ c ∧ c < W'.heap.size) ∧ Below W.heap.size W W' := by
  obtain ⟨W0, hW0⟩ : ∃ V, (W.alloc (.cells #[.int .i64 1, .int .i64 ix, .string nm, .slice a 0 cap] 29)).alloc (.cells #[.int .i64 0, .int .i64 0, .string ⟨#[]⟩, .slice none 0 0] 29) = V := ⟨_, rfl⟩
  have b0 := below_alloc2 W (.cells #[.int .i64 1, .int .i64 ix, .string nm, .slice a 0 cap] 29) (.cells #[.int .i64 0, .int .i64 0, .string ⟨#[]⟩, .slice none 0 0] 29)
  have q4 := Box4.new (W.alloc (.cells #[.int .i64 1, .int .i64 ix, .string nm, .slice a 0 cap] 29)) (.int .i64 0) (.int .i64 0) (.string ⟨#[]⟩) (.slice none 0 0) 29
  rw [World.size_alloc] at q4
  have q2 := (Box4.new W (.int .i64 1) (.int .i64 ix) (.string nm) (.slice a 0 cap) 29).alloc (.cells #[.int .i64 0, .int .i64 0, .string ⟨#[]⟩, .slice none 0 0] 29)
  have hz : ((W.alloc (.cells #[.int .i64 1, .int .i64 ix, .string nm, .slice a 0 cap] 29)).alloc (.cells #[.int .i64 0, .int .i64 0, .string ⟨#[]⟩, .slice none 0 0] 29)).heap.size = W.heap.size + 1 + 1 := by simp
  rw [hW0] at b0 q4 q2 hz
  have k0 : Kept (fun _ => True) W W0 := kt b0
  have hmx : bn ≤ 9223372036854775807 := by have h2 := hbl.le; have h3 := hbl.mx; simp only [maxLen] at h3; omega
  have HBL0 := hide (hbl.kept k0 (fun _ _ => trivial) (by omega))
  have HB0 := hide b0
  have HQ2 := hide q2
  have HQ4 := hide q4
  have HZ := hide hz
  have HW0 := hide hW0
  have x0 := q2.c0
  clear hbl b0 q4 q2 hz hW0 k0
  go_enter Try.func55, Try.ntmps55
  go_wp2_with fail
  rw [HW0.out]
  clear HW0
  go_loopw [5] (fun s5 wr => ∃ (i : Nat) (A B : List Bd), s5 = .int .i64 i ∧ i ≤ bn ∧ Hid (SrI W0 wr ix L A B i)) (fun s5 _ => bn - (intOf s5).toNat)
  case atStart => exact ⟨0, [], L, rfl, Nat.zero_le _, rfl, rfl, fun x hx => absurd hx List.not_mem_nil, Kept.refl _ _⟩
  case round =>
    obtain ⟨i, A, B, rfl, hin, hA⟩ := hrel
    have hzr := hA.out.kp.size
    have hz := HZ.out
    have qr2 := HQ2.out.kept hA.out.kp trivial
    have qr4 := HQ4.out.kept hA.out.kp trivial
    cases B with
    | nil =>
      have hi : i = bn := by have h1 := hA.out.eq; have h2 := HBL0.out.ln; have h3 := hA.out.ln; rw [h1, List.append_nil] at h2; omega
      subst hi
      have hap : (Fo.cons 1 ix nm a cap .nil .nil).ap L = .cons 1 ix nm a cap .nil .nil := by simp [Fo.ap, sb, hA.out.miss]
      obtain ⟨-, d0, di, d1, d2, -, -, -, -⟩ := id qr2
      obtain ⟨-, p0, pi, p1, p2, f0, fi, f1, f2⟩ := id qr4
      have HK := hide hA.out.kp
      have HAP := hide hap
      clear hA qr2 qr4 hap
      go_wp2_with fail
      refine bodyPost_ret (v := .agg #[.int .i64 1, .int .i64 ix, .string nm, .slice a 0 cap]) (by simp [results, Try.results55, go_sem, p0, pi, p1, p2]) rfl ⟨_, rfl, ⟨1, ix, nm, a, cap, .nil⟩, rfl, by rw [HAP.out]; exact ⟨rfl, rfl, rfl, trivial, trivial⟩, ⟨(by show (Lit.int .i64 1).wf = true; decide), hix, hnm, ⟨Nat.zero_le _, hc, fun h => by simp [Fo.len] at h⟩⟩, ?_⟩
      refine (fun (V : World) (kV : Kept (fun c => c ≠ W.heap.size + 1) wr V) => (?_ : Below W.heap.size W V)) _ ?_
      · exact Below.kept (Below.kept HB0.out HK.out (fun _ _ => trivial) (Nat.le_refl _)) kV (fun c hc => by omega) (Nat.le_refl _)
      · exact (((Kept.setCell _ _ _ _ (by simp)).trans (Kept.setCell _ _ _ _ (by simp))).trans (Kept.setCell _ _ _ _ (by simp))).trans (Kept.setCell _ _ _ _ (by simp))
    | cons x B =>
      have hi : i < bn := by have h1 := hA.out.eq; have h2 := HBL0.out.ln; have h3 := hA.out.ln; rw [h1, List.length_append, List.length_cons] at h2; omega
      have hii : (i : Int) < bn := by omega
      have hx : L[i]? = some x := by rw [hA.out.eq, ← hA.out.ln]; simp
      obtain ⟨b, o, rfl, hb, hg⟩ := (HBL0.out.kept hA.out.kp (fun _ _ => trivial) (by omega)).at_ (by omega)
      have hgx := hg i x hx
      have y : wr.cell? ⟨b, o + i * 5, none⟩ = some (.int .i64 x.id) := hgx.c
      have xi := qr2.ci
      have HGX := hide hgx
      have HXM : Hid (x ∈ L) := List.mem_of_getElem? hx
      clear hg hgx hx
      by_cases hid : x.id = ix
      · have hap : (Fo.cons 1 ix nm a cap .nil .nil).ap L = .cons x.d.k x.d.ix x.d.nm x.d.a x.d.cap x.d.ks .nil := by simp [Fo.ap, sb, hA.out.hit hid]
        have HAP := hide hap
        have HQR4 := hide qr4
        have HK := hide hA.out.kp
        have HD : Hid (∀ wx, Kept (fun _ => True) wr wx → wx.cell? ⟨b, o + i * 5 + 1, none⟩ = some (.int .i64 x.d.k) ∧ wx.cell? ⟨b, o + i * 5 + 1 + 1, none⟩ = some (.int .i64 x.d.ix) ∧ wx.cell? ⟨b, o + i * 5 + 1 + 2, none⟩ = some (.string x.d.nm) ∧ wx.cell? ⟨b, o + i * 5 + 1 + 3, none⟩ = some (.slice x.d.a x.d.ks.len x.d.cap)) := fun wx kx => by
          have h := HGX.out.at_.kept kx (fun _ _ => trivial) hb (by omega)
          exact ⟨h.c0, h.ci, h.c1, h.c2⟩
        have HCP : Hid (∀ wx, Kept (fun _ => True) wr wx → Calls Try.prog 79 #[.agg #[.int .i64 x.d.k, .int .i64 x.d.ix, .string x.d.nm, .slice x.d.a x.d.ks.len x.d.cap]] wx fun e W' => ∃ v', e = .returned v' ∧ ∃ d : Nd, v' = d.v ∧ d.fo.sim (Fo.cons x.d.k x.d.ix x.d.nm x.d.a x.d.cap x.d.ks .nil) ∧ d.Ok W' (fun c => wx.heap.size ≤ c ∧ c < W'.heap.size) ∧ Below wx.heap.size wx W') := fun wx kx => by
          have h := HGX.out.at_
          have hzx := kx.size
          have h2 := copy_any _ x.d.ks (Nat.lt_succ_self _) x.d.k x.d.ix x.d.nm n0 wx x.d.a x.d.cap (by omega) (hL x HXM.out) h.wf h.wi h.nm (h.sl.kept kx (fun c hc => ⟨trivial, by omega⟩))
          unfold nodeV at h2
          exact h2
        clear hA qr2 qr4 hap HGX HXM
        go_upto_region 5 with fail
        go_cut [24] (fun s24 wx => s24 = .bool true ∧ Kept (fun _ => True) wr wx)
        case first =>
          go_region
          go_wp2_with fail
          go_meet
          case rel => exact ⟨by simp, Kept.drew _ _⟩
        case rest =>
          obtain ⟨rfl, hcb⟩ := hcut
          rename World => wx
          obtain ⟨y0, y1, y2, y3⟩ := HD.out wx hcb
          have HCX := hide (HCP.out wx hcb)
          have HKX := hide (HK.out.trans hcb)
          have HQX := hide (HQR4.out.kept hcb trivial)
          clear HCP HD hcb HQR4 HK
          go_wp2_with fail
          refine HCX.out.mono ?_
          rintro e w1 ⟨v', rfl, d, rfl, hd1, hd2, hb1⟩
          unfold Nd.v nodeV
          have k1 : Kept (fun _ => True) wx w1 := kt hb1
          obtain ⟨-, p0, pi, p1, p2, f0, fi, f1, f2⟩ := HQX.out.kept k1 trivial
          have HF : Hid (d.fo.sim (Fo.cons x.d.k x.d.ix x.d.nm x.d.a x.d.cap x.d.ks .nil) ∧ d.Ok w1 (fun c => wx.heap.size ≤ c ∧ c < w1.heap.size) ∧ Kept (fun _ => True) W0 w1) := ⟨hd1, hd2, HKX.out.trans k1⟩
          have hzx := HKX.out.size
          clear hd1 hd2 hb1 k1 HCX
          go_wp2_with fail
          refine bodyPost_ret (v := .agg #[.int .i64 d.k, .int .i64 d.ix, .string d.nm, .slice d.a d.ks.len d.cap]) (by simp [results, Try.results55, go_sem, p0, pi, p1, p2]) rfl ⟨_, rfl, d, rfl, by rw [HAP.out]; exact HF.out.1, ?_⟩
          refine (fun (V : World) (kV : Kept (fun c => c ≠ W.heap.size + 1) w1 V) => (?_ : d.Ok V (fun c => W.heap.size ≤ c ∧ c < V.heap.size) ∧ Below W.heap.size W V)) _ ?_
          · have := kV.size
            exact ⟨HF.out.2.1.keep (fun c h => ⟨by omega, by omega⟩) (fun p hp v hv => (kV.cell (p := p) hp.2 (by have := hp.1; omega)).trans hv), Below.kept (Below.kept HB0.out HF.out.2.2 (fun _ _ => trivial) (Nat.le_refl _)) kV (fun c hc => by omega) (Nat.le_refl _)⟩
          · exact (((Kept.setCell _ _ _ _ (by simp)).trans (Kept.setCell _ _ _ _ (by simp))).trans (Kept.setCell _ _ _ _ (by simp))).trans (Kept.setCell _ _ _ _ (by simp))
      · have HN : Hid (∀ wx, Kept (fun _ => True) wr wx → SrI W0 wx ix L (A ++ [x]) B (i + 1)) := fun wx kx => hA.out.next hid kx
        clear hA qr2 qr4 HGX HXM
        go_upto_region 5 with fail
        go_cut [24] (fun s24 wx => s24 = .bool false ∧ Kept (fun _ => True) wr wx)
        case first =>
          go_region
          go_wp2_with fail
          go_meet
          case rel => exact ⟨by simpa using hid, Kept.drew _ _⟩
        case rest =>
          obtain ⟨rfl, hcb⟩ := hcut
          rename World => wx
          have HN' := hide (HN.out wx hcb)
          clear HN hcb
          go_wp2_with fail
          go_roundw
          case rel => exact ⟨i + 1, _, B, by go_num, by omega, HN'.out⟩
          case measure => simp [intOf]; omega

end Go.Proofs.Ytjlefdalobgdfaa
