import Derived.Test.YtjlefdalobgdfaaEq
import Derived.Lib.SmallJoins
namespace Go.Proofs.Ytjlefdalobgdfaa
open Go.RowKit Go.Joins

set_option maxHeartbeats 1000000 in
set_option maxRecDepth 100000 in
theorem markText (k : Nat) (w : World) (h0 : 0 < k) (hk : k ≤ 4294967296) : Calls Try.prog 61 #[.int .i64 k] w fun e w' => e = .returned (.string (mt k)) ∧ Below w.heap.size w w' := by
  go_enter Try.func61, Try.ntmps61
  go_wp2_with fail
  go_loopw [0, 3] (fun i o wr => ∃ (j : Nat) (s : ByteArray), j ≤ k ∧ i = .int .i64 j ∧ o = .string s ∧ s.size + j ≤ k ∧ Hid (dg j s = dg k ⟨#[]⟩) ∧ Below w.heap.size w wr) (fun i _ _ => (intOf i).toNat)
  case atStart => exact ⟨k, ⟨#[]⟩, Nat.le_refl _, rfl, rfl, by simp [ByteArray.size], rfl, Below.refl _ _⟩
  case round =>
    obtain ⟨j, s, hj, rfl, rfl, hsz, hd, hb⟩ := hrel
    by_cases hlt : 0 < j
    · have hlt' : (0 : Int) < j := by omega
      obtain ⟨r, hr⟩ : ∃ r, r = j % 10 := ⟨_, rfl⟩
      obtain ⟨q, hq⟩ : ∃ q, q = j / 10 := ⟨_, rfl⟩
      have hr' : (j : Int).tmod 10 = r := by rw [hr, Int.tmod_eq_emod_of_nonneg (by omega)]; omega
      have hq' : (j : Int).tdiv 10 = q := by rw [hq, Int.tdiv_eq_ediv_of_nonneg (by omega)]; omega
      have hrl : r < 10 := by omega
      have hql : q < j := by omega
      have HDG : Hid (dg q (⟨#[UInt8.ofNat (48 + r)]⟩ ++ s) = dg k ⟨#[]⟩) := by
        unfold Hid
        rw [← hd.out, dg.eq_def j s, dif_neg (by omega), hr, hq]
      have hss : ((⟨#[UInt8.ofNat (48 + r)]⟩ : ByteArray) ++ s).size = s.size + 1 := by
        rw [ByteArray.size_append]
        show 1 + s.size = _
        omega
      clear hr hq
      have hcv : (convert 135 9 (.slice (some ⟨wr.heap.size, 0, none⟩) 1 1)).run Try.prog (wr.alloc (.cells #[.int .u8 (48 + (r : Int))] 5)) = .ok (.string ⟨#[UInt8.ofNat (48 + r)]⟩) (wr.alloc (.cells #[.int .u8 (48 + (r : Int))] 5)) :=
        run_convert_bytes_back (P := Try.prog) (wr.alloc (.cells #[.int .u8 (48 + (r : Int))] 5)) 135 9 5 ⟨wr.heap.size, 0, none⟩ 1 [UInt8.ofNat (48 + r)] Try.underlying135 Try.underlying5 Try.underlying9 (fun j hj => by
          have : j = 0 := by simpa using hj
          subst this
          have hm : (48 + r) % 256 = 48 + r := Nat.mod_eq_of_lt (by omega)
          show (wr.alloc _).cell? _ = _
          simp [Addr.add, hm])
      generalize hG : UInt8.ofNat (48 + r) = G at *
      go_wp2_with fail
      go_roundw
      case rel => exact ⟨q, ⟨#[G]⟩ ++ s, by omega, rfl, rfl, by rw [hss]; omega, HDG, hb.trans ((below_alloc1 _ _).mono hb.size)⟩
      case measure => simp [intOf]; omega
    · have hlt' : ¬ (0 : Int) < j := by omega
      obtain rfl : j = 0 := by omega
      have hd' := hd.out
      rw [dg, dif_pos rfl] at hd'
      subst hd'
      go_wp2_with fail
      go_ret
      exact ⟨rfl, hb⟩


/-- A row is marked. -/
def MkS (F : Fo) : Prop := ∀ (W : World) (a : Option Addr) (cap k : Nat), k + 3 * F.size ≤ 4294967296 → F.Sl W (fun c => c < W.heap.size) a cap → (blk a F.len ++ F.inn).Nodup → Live W (blk a F.len ++ F.inn) →
  Calls Try.prog 51 #[.slice a F.len cap, .int .i64 k] W fun e W' => e = .returned (.int .i64 ((k + 3 * F.size : Nat) : Int)) ∧ (F.mk k).Sl W' (fun c => c < W.heap.size) a cap ∧ Kept (fun c => c ∉ blk a F.len ++ F.inn) W W' ∧ Live W' (blk a F.len ++ F.inn)

theorem Fo.Row.split {W : World} {S : Nat → Prop} : ∀ {F G : Fo} {b o : Nat}, (F.app G).Row W S b o → F.Row W S b o ∧ G.Row W S b (o + F.len * 4)
  | .nil, _, _, _, h => ⟨trivial, by simpa [Fo.app, Fo.len] using h⟩
  | .cons _ _ _ _ _ _ r, G, b, o, ⟨hk, hix, hn, c1, ci, c2, c3, h4, h5, h6, h7⟩ => by
    obtain ⟨x, y⟩ := Fo.Row.split (F := r) (G := G) h7
    refine ⟨⟨hk, hix, hn, c1, ci, c2, c3, h4, h5, h6, x⟩, ?_⟩
    have e : o + 4 + r.len * 4 = o + (r.len + 1) * 4 := by omega
    rw [e] at y
    exact y

theorem mt_size (k : Nat) (h0 : 0 < k) (hk : k ≤ 4294967296) : (mt k).size ≤ maxLen := by
  have key : ∀ (n j : Nat) (o : ByteArray), j ≤ n → (dg j o).size ≤ j + o.size := by
    intro n
    induction n with
    | zero => intro j o hj; rw [dg.eq_def, dif_pos (by omega)]; omega
    | succ n ih =>
      intro j o hj
      rw [dg.eq_def]
      split
      · omega
      · have := ih (j / 10) (⟨#[UInt8.ofNat (48 + j % 10)]⟩ ++ o) (by omega)
        rw [ByteArray.size_append] at this
        have e : (⟨#[UInt8.ofNat (48 + j % 10)]⟩ : ByteArray).size = 1 := rfl
        omega
  have h1 := key k k ⟨#[]⟩ (Nat.le_refl _)
  unfold mt
  rw [ByteArray.size_append]
  have e : (⟨#[109]⟩ : ByteArray).size = 1 := rfl
  have e2 : (⟨#[]⟩ : ByteArray).size = 0 := rfl
  unfold maxLen
  omega

theorem wf_nat {q : Nat} (h : q ≤ 4294967296) : (Lit.int .i64 (q : Int)).wf = true := by
  have h1 : (IntKind.i64).min = -9223372036854775808 := by decide
  have h2 : (IntKind.i64).max = 9223372036854775807 := by decide
  simp [Lit.wf, h1, h2]
  omega

theorem nodup_mid {X Y Z : List Nat} {b : Nat} (h : (b :: (X ++ (Y ++ Z))).Nodup) : b ∉ X ∧ b ∉ Y ∧ b ∉ Z ∧ Y.Nodup ∧ (∀ c, c ∈ X → c ∉ Y) ∧ (∀ c, c ∈ Z → c ∉ Y) := by
  rw [List.nodup_cons, List.mem_append, List.mem_append, List.nodup_append, List.nodup_append] at h
  obtain ⟨h1, h2, ⟨h3, h4, h5⟩, h6⟩ := h
  refine ⟨fun x => h1 (.inl x), fun x => h1 (.inr (.inl x)), fun x => h1 (.inr (.inr x)), h3, fun c hc hy => ?_, fun c hc hy => ?_⟩
  · exact h6 c hc c (List.mem_append.2 (.inl hy)) rfl
  · exact h5 c hy c hc rfl

set_option maxHeartbeats 2000000 in
set_option maxRecDepth 100000 in
theorem mark_row : ∀ (m : Nat) (F : Fo), F.size < m → MkS F := by
  intro m
  induction m with
  | zero => intro F hF; omega
  | succ m ih =>
    intro F hF W a cap k hk hs hnd hlv
    have hsl := F.len_le
    have hmx : F.len ≤ 9223372036854775807 := by have h2 := hs.1; have h3 := hs.2.1; simp only [maxLen] at h3; omega
    by_cases hp : 0 < F.len
    · obtain ⟨b, o, rfl, hb, hrow⟩ := hs.2.2 hp
      rw [blk_pos hp] at hnd hlv ⊢
      simp only [List.singleton_append] at hnd hlv ⊢
      have hin := hrow.inn_of
      have HND := hide hnd
      clear hnd
      go_enter Try.func51, Try.ntmps51
      go_wp2_with fail
      go_loopw [1, 5] (fun s1 s5 wr => ∃ (i : Nat) (Fp r : Fo), s1 = .int .i64 ((k + 3 * Fp.size : Nat) : Int) ∧ s5 = .int .i64 i ∧ Fp.app r = F ∧ Fp.len = i ∧ ((Fp.mk k).app r).Row wr (fun c => c ∈ F.inn) b o ∧ Kept (fun c => c ∉ b :: F.inn) W wr ∧ Live wr (b :: F.inn)) (fun _ s5 _ => F.len - (intOf s5).toNat)
      case atStart => exact ⟨0, .nil, F, by simp [Fo.size], rfl, rfl, rfl, hrow.own, Kept.refl _ _, hlv⟩
      case round =>
        obtain ⟨i, Fp, r, rfl, rfl, hF2, hi, hR, hK, hL⟩ := hrel
        have hlen : i + r.len = F.len := by rw [← hF2, Fo.app_len, hi]
        have hzW := hK.size
        cases r with
        | nil =>
          simp only [Fo.len] at hlen
          rw [Fo.app_nil] at hF2 hR
          subst hF2
          go_wp2_with fail
          go_ret
          refine ⟨rfl, ⟨by rw [Fo.mk_len]; exact hs.1, hs.2.1, fun _ => ⟨b, o, rfl, hb, hR.keep (fun c hc => hin c hc) (fun _ _ _ h => h) (fun _ _ _ _ h => h)⟩⟩, hK, hL⟩
        | cons k' ix' nm ka kcap ks r =>
          simp only [Fo.len] at hlen
          obtain ⟨hRp, hRr⟩ := hR.split
          rw [Fo.mk_len, hi] at hRr
          obtain ⟨hk', hix', hnm, c1, ci, c2, c3, h4, h5, h6, h7⟩ := hRr
          have hinn : F.inn = Fp.inn ++ ((blk ka ks.len ++ ks.inn) ++ r.inn) := by rw [← hF2, Fo.inn_app]; rfl
          obtain ⟨b1, b2, b3, nd, dX, dZ⟩ := nodup_mid (hinn ▸ HND.out)
          have hsz : F.size = Fp.size + (1 + ks.size + r.size) := by rw [← hF2, Fo.app_size]; rfl
          obtain ⟨q, hq⟩ : ∃ q, k + 3 * Fp.size = q := ⟨_, rfl⟩
          rw [hq]
          have f0 := hL b (List.mem_cons_self) (o + i * 4)
          have fi := hL b (List.mem_cons_self) (o + i * 4 + 1)
          have f1 := hL b (List.mem_cons_self) (o + i * 4 + 2)
          have hbw : b < wr.heap.size := by omega
          have hil : (i : Int) < F.len := by omega
          have hq1 : q + 3 ≤ 4294967296 := by omega
          have HM : Hid (∀ w, Calls Try.prog 61 #[.int .i64 ((q : Int) + 1 + 1)] w fun e w' => e = .returned (.string (mt (q + 2))) ∧ Below w.heap.size w w') := fun w => by
            have e : ((q + 2 : Nat) : Int) = (q : Int) + 1 + 1 := by omega
            rw [← e]
            exact markText (q + 2) w (by omega) (by omega)
          have HIH : Hid (∀ (w : World), ks.Sl w (fun c => c < w.heap.size) ka kcap → Live w (blk ka ks.len ++ ks.inn) → Calls Try.prog 51 #[.slice ka ks.len kcap, .int .i64 ((q : Int) + 1 + 1 + 1)] w fun e w' => e = .returned (.int .i64 ((q + 3 + 3 * ks.size : Nat) : Int)) ∧
              (ks.mk (q + 3)).Sl w' (fun c => c < w.heap.size) ka kcap ∧ Kept (fun c => c ∉ blk ka ks.len ++ ks.inn) w w' ∧ Live w' (blk ka ks.len ++ ks.inn)) := fun w h1 h2 => by
            have e : ((q + 3 : Nat) : Int) = (q : Int) + 1 + 1 + 1 := by omega
            rw [← e]
            exact ih ks (by omega) w ka kcap (q + 3) (by omega) h1 nd h2
          have HQ := hide hq
          have HSZ := hide hsz
          have HLEN := hide hlen
          have HI := hide hi
          clear hq hsz hlen hi hk
          go_wp2_with fail
          obtain ⟨w1, hw1⟩ : ∃ w1, (wr.setCell ⟨b, o + i * 4, none⟩ (.int .i64 q)).setCell ⟨b, o + i * 4 + 1, none⟩ (.int .i64 ((q : Int) + 1)) = w1 := ⟨_, rfl⟩
          have z1 : w1.heap.size = wr.heap.size := by rw [← hw1]; simp [World.setCell]
          have k1 : Kept (fun c => c ≠ b) wr w1 := by rw [← hw1]; exact (Kept.setCell _ _ _ _ (by simp)).trans (Kept.setCell _ _ _ _ (by simp))
          have d0 : w1.cell? ⟨b, o + i * 4, none⟩ = some (.int .i64 q) := by rw [← hw1, World.cell?_setCell_other _ _ _ _ (by simp)]; exact World.cell?_setCell_same' _ _ _ (by rw [c1]; rfl)
          have di : w1.cell? ⟨b, o + i * 4 + 1, none⟩ = some (.int .i64 ((q : Int) + 1)) := by rw [← hw1]; exact World.cell?_setCell_same' _ _ _ (by rw [World.cell?_setCell_other _ _ _ _ (by simp), ci]; rfl)
          have e1 : ∀ j, j ≠ o + i * 4 → j ≠ o + i * 4 + 1 → ∀ v, wr.cell? ⟨b, j, none⟩ = some v → w1.cell? ⟨b, j, none⟩ = some v := fun j hj hj2 v hv => by
            rw [← hw1, World.cell?_setCell_other _ _ _ _ (by simp), World.cell?_setCell_other _ _ _ _ (by simp)]; exact hv
          have l1 : Live w1 (b :: F.inn) := by rw [← hw1]; exact (hL.set _ _).set _ _
          rw [hw1]
          clear hw1
          refine (HM.out w1).mono ?_
          rintro e w2 ⟨rfl, b12⟩
          have z2 := b12.size
          have hlt : ∀ c, c ∈ b :: F.inn → c < wr.heap.size := fun c hc => by
            rcases List.mem_cons.1 hc with rfl | hc
            · exact hbw
            · have := hin c hc; omega
          have l2 : Live w2 (b :: F.inn) := fun c hc j => (b12.frozen (p := ⟨c, j, none⟩) (by have := hlt c hc; show c < _; omega)).trans (l1 c hc j)
          have g1 := l2 b (List.mem_cons_self) (o + i * 4 + 2)
          have d1 := (b12.cell (p := ⟨b, o + i * 4 + 2, none⟩) (by show b < _; omega)).trans (e1 _ (by omega) (by omega) _ c2)
          have d2 := (b12.cell (p := ⟨b, o + i * 4 + 3, none⟩) (by show b < _; omega)).trans (e1 _ (by omega) (by omega) _ c3)
          have d0' := (b12.cell (p := ⟨b, o + i * 4, none⟩) (by show b < _; omega)).trans d0
          have di' := (b12.cell (p := ⟨b, o + i * 4 + 1, none⟩) (by show b < _; omega)).trans di
          go_wp2_with fail
          obtain ⟨w3, hw3⟩ : ∃ w3, w2.setCell ⟨b, o + i * 4 + 2, none⟩ (.string (mt (q + 2))) = w3 := ⟨_, rfl⟩
          have z3 : w3.heap.size = w2.heap.size := by rw [← hw3]; simp [World.setCell]
          have k3 : Kept (fun c => c ≠ b) w2 w3 := by rw [← hw3]; exact Kept.setCell _ _ _ _ (by simp)
          have x1 : w3.cell? ⟨b, o + i * 4 + 2, none⟩ = some (.string (mt (q + 2))) := by rw [← hw3]; exact World.cell?_setCell_same' _ _ _ (by rw [d1]; rfl)
          have e3 : ∀ j, j ≠ o + i * 4 + 2 → ∀ v, w2.cell? ⟨b, j, none⟩ = some v → w3.cell? ⟨b, j, none⟩ = some v := fun j hj v hv => by
            rw [← hw3, World.cell?_setCell_other _ _ _ _ (by simp)]; exact hv
          have l3 : Live w3 (b :: F.inn) := by rw [← hw3]; exact l2.set _ _
          rw [hw3]
          clear hw3
          have k13 : Kept (fun c => c ≠ b ∧ c < wr.heap.size) wr w3 :=
            ((k1.mono (fun c _ h => h.1)).trans (Kept.of_below b12 (fun c _ h => by have := h.2; omega))).trans (k3.mono (fun c _ h => h.1))
          have e13 : ∀ j, j ≠ o + i * 4 → j ≠ o + i * 4 + 1 → j ≠ o + i * 4 + 2 → ∀ v, wr.cell? ⟨b, j, none⟩ = some v → w3.cell? ⟨b, j, none⟩ = some v := fun j h1 h2 h3 v hv =>
            e3 j h3 v ((b12.cell (p := ⟨b, j, none⟩) (by show b < _; omega)).trans (e1 j h1 h2 v hv))
          have hsub : ∀ c, c ∈ blk ka ks.len ++ ks.inn → c ∈ F.inn := fun c hc => by rw [hinn]; simp only [List.mem_append] at hc ⊢; exact .inr (.inl hc)
          have hks : ks.Sl wr (fun c => c ∈ F.inn) ka kcap := ⟨h4, h5, h6⟩
          have hks3 : ks.Sl w3 (fun c => c < w3.heap.size) ka kcap := hks.own.keep (fun c hc => by have := hlt c (List.mem_cons_of_mem _ (hsub c hc)); omega) (fun p hp v hv =>
            (k13.cell (p := p) (hlt _ (List.mem_cons_of_mem _ (hsub _ hp))) ⟨fun e => b2 (e ▸ hp), hlt _ (List.mem_cons_of_mem _ (hsub _ hp))⟩).trans hv)
          refine (HIH.out w3 hks3 (l3.sub (fun c hc => List.mem_cons_of_mem _ (hsub c hc)))).mono ?_
          rintro e w4 ⟨rfl, s4, k4, l4⟩
          have z4 := k4.size
          go_wp2_with fail
          go_roundw
          case rel =>
            have hkp : ∀ Y : List Nat, (∀ c, c ∈ Y → c ∈ F.inn ∧ c ∉ blk ka ks.len ++ ks.inn ∧ c ≠ b) → ∀ p : Addr, p.block ∈ Y → ∀ v, wr.cell? p = some v → w4.cell? p = some v := fun Y hY p hp v hv => by
              obtain ⟨y1, y2, y3⟩ := hY _ hp
              have h1 := hlt _ (List.mem_cons_of_mem _ y1)
              exact (k4.cell (p := p) (by omega) y2).trans ((k13.cell (p := p) h1 ⟨y3, h1⟩).trans hv)
            have hb4 : ∀ j, j ≠ o + i * 4 → j ≠ o + i * 4 + 1 → j ≠ o + i * 4 + 2 → ∀ v, wr.cell? ⟨b, j, none⟩ = some v → w4.cell? ⟨b, j, none⟩ = some v := fun j h1 h2 h3 v hv =>
              (k4.cell (p := ⟨b, j, none⟩) (by show b < _; omega) b2).trans (e13 j h1 h2 h3 v hv)
            refine ⟨i + 1, Fp.app (.cons k' ix' nm ka kcap ks .nil), r, ?_, by go_num, by rw [Fo.app_assoc]; exact hF2, by rw [Fo.app_len, HI.out]; rfl, ?_, ?_, ?_⟩
            · rw [Fo.app_size]
              have := HQ.out
              simp only [Fo.size]
              congr 2
              omega
            · rw [Fo.mk_app, HQ.out, Fo.app_assoc]
              have hlp : (Fp.mk k).len = i := by rw [Fo.mk_len]; exact HI.out
              have hRp' := hRp.own
              simp only [Fo.mk_inn] at hRp'
              have hinF : ∀ c, c ∈ Fp.inn → c ∈ F.inn := fun c hc => by rw [hinn]; exact List.mem_append.2 (.inl hc)
              have hinR : ∀ c, c ∈ r.inn → c ∈ F.inn := fun c hc => by rw [hinn]; simp only [List.mem_append]; exact .inr (.inr hc)
              refine Fo.Row.app ?_ ?_
              · exact hRp'.keep hinF (hkp Fp.inn (fun c hc => ⟨hinF c hc, dX c hc, fun e => b1 (e ▸ hc)⟩)) (fun j hj1 hj2 v hv => hb4 j (by omega) (by omega) (by omega) v hv)
              · rw [hlp]
                refine ⟨wf_nat (by omega), wf_nat (by omega), mt_size _ (by omega) (by omega), ?_, ?_, ?_, ?_, s4.1, h5, fun hl => ?_, ?_⟩
                · exact (k4.cell (p := ⟨b, o + i * 4, none⟩) (by show b < _; omega) b2).trans (e3 _ (by omega) _ d0')
                · exact (k4.cell (p := ⟨b, o + i * 4 + 1, none⟩) (by show b < _; omega) b2).trans (e3 _ (by omega) _ di')
                · exact (k4.cell (p := ⟨b, o + i * 4 + 2, none⟩) (by show b < _; omega) b2).trans x1
                · rw [Fo.mk_len]; exact hb4 _ (by omega) (by omega) (by omega) _ c3
                · have h8 := s4.own
                  simp only [Fo.mk_len, Fo.mk_inn] at h8
                  exact (h8.mono (T := fun c => c ∈ F.inn) hsub).2.2 hl
                · exact h7.own.keep hinR (hkp r.inn (fun c hc => ⟨hinR c hc, dZ c hc, fun e => b3 (e ▸ hc)⟩)) (fun j hj1 hj2 v hv => hb4 j (by omega) (by omega) (by omega) v hv)
            · refine hK.trans ((k13.mono (fun c hc h => ⟨fun e => h (e ▸ List.mem_cons_self), hc⟩)).trans (k4.mono (fun c _ h hc => h (List.mem_cons_of_mem _ (hsub c hc)))))
            · intro c hc j
              by_cases hx : c ∈ blk ka ks.len ++ ks.inn
              · exact l4 c hx j
              · exact (k4.frozen (p := ⟨c, j, none⟩) (by have := hlt c hc; show c < _; omega) hx).trans (l3 c hc j)
          case measure => have := HLEN.out; simp [intOf]; omega
    · have h0 : F = .nil := by
        cases F with
        | nil => rfl
        | cons _ _ _ _ _ _ _ => simp [Fo.len] at hp
      subst h0
      simp only [Fo.len]
      go_enter Try.func51, Try.ntmps51
      go_wp2_with fail
      go_loopw [1, 5] (fun s1 s5 wr => s1 = .int .i64 k ∧ s5 = .int .i64 0 ∧ wr = W) (fun _ _ _ => 0)
      case atStart => exact ⟨rfl, rfl, rfl⟩
      case round =>
        obtain ⟨rfl, rfl, rfl⟩ := hrel
        go_wp2_with fail
        go_ret
        exact ⟨by simp [Fo.size], ⟨hs.1, hs.2.1, fun h => by simp [Fo.mk, Fo.len] at h⟩, Kept.refl _ _, hlv⟩

end Go.Proofs.Ytjlefdalobgdfaa
