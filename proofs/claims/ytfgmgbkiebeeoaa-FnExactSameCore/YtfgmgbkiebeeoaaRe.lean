import Derived.Test.YtfgmgbkiebeeoaaSb
namespace Go.Proofs.Ytfgmgbkiebeeoaa
open Go.RowKit Go.Joins

theorem sm_all : ∀ m, SmC m
  | 0 => fun F G nb W hm hf => absurd (Fit.len hf) (by have := F.len_le; show ¬ F.len = 7; omega)
  | m + 1 => sm_step m (sm_all m)

/-- The model's SameCore. -/
theorem m_same (F G : Fo) (W : World) (hf : Fit E F (E 3)) (hg : Fit E G (E 3)) (hs : F.Subs W (fun c => c < W.heap.size)) (ht : G.Subs W (fun c => c < W.heap.size)) : Calls Try.prog 10 #[.agg F.vals.toArray, .agg G.vals.toArray] W (SmP (G.sim F) W) := sm_all F.size F G W.heap.size W (Nat.le_refl _) hf hg (Nat.le_refl _) hs ht

set_option maxHeartbeats 4000000 in
set_option maxRecDepth 100000 in
/-- The heads of two alternatives are compared. -/
theorem i_head {W : World} {nb b o b' o' : Nat} {con con' : ByteArray} {ca ca' : Option Addr} {cn cc cn' cc' : Nat} {ck ck' : Fo} (hnb : nb ≤ W.heap.size) (c0 : W.cell? ⟨b, o, none⟩ = some (.string con)) (c1 : W.cell? ⟨b, o + 1, none⟩ = some (.slice ca cn cc)) (d0 : W.cell? ⟨b', o', none⟩ = some (.string con')) (d1 : W.cell? ⟨b', o' + 1, none⟩ = some (.slice ca' cn' cc')) (hk : Fit E ck (rep (E 1) cn)) (hk' : Fit E ck' (rep (E 1) cn')) (hs : ck.Sub W (fun c => c < nb) ca cn cc) (hs' : ck'.Sub W (fun c => c < nb) ca' cn' cc') :
    Calls Try.prog 51 #[.pointer (some ⟨b, o, none⟩), .pointer (some ⟨b', o', none⟩)] W (SmP (con = con' ∧ cn = cn' ∧ ck'.sim ck) W) := by
  have bd : Below W.heap.size W W.drew := (Below.refl _ W).drew
  have HN0 := sm_53 ck ck' cn cn' nb W.drew ca ca' cc cc' hk hk' hnb (Fo.Sub.below bd (fun c hc => by have : c < nb := hc; omega) hs) (Fo.Sub.below bd (fun c hc => by have : c < nb := hc; omega) hs')
  obtain ⟨D, hD⟩ : ∃ D, (con = con' ∧ cn = cn' ∧ ck'.sim ck) = D := ⟨_, rfl⟩
  obtain ⟨Q, hQ⟩ : ∃ Q, (cn = cn' ∧ ck'.sim ck) = Q := ⟨_, rfl⟩
  have HD : Hid (D ↔ (con = con' ∧ Q)) := by unfold Hid; rw [← hD, ← hQ]
  rw [hD]
  simp only [hQ] at HN0
  have HBD := hide bd
  have hl : b < W.heap.size := block_lt_of_cell c0
  have hl' : b' < W.heap.size := block_lt_of_cell d0
  have e0 : W.drew.cell? ⟨b, o, none⟩ = some (.string con) := c0
  have e1 : W.drew.cell? ⟨b, o + 1, none⟩ = some (.slice ca cn cc) := c1
  have f0 : W.drew.cell? ⟨b', o', none⟩ = some (.string con') := d0
  have f1 : W.drew.cell? ⟨b', o' + 1, none⟩ = some (.slice ca' cn' cc') := d1
  clear hk hk' hs hs' hnb hD hQ bd
  by_cases hcon : con = con'
  · subst hcon
    have HSS : Hid (∀ V, Below W.heap.size W V → V.cell? ⟨b, o, none⟩ = some (.string con) ∧ V.cell? ⟨b, o + 1, none⟩ = some (.slice ca cn cc) ∧ V.cell? ⟨b', o', none⟩ = some (.string con) ∧ V.cell? ⟨b', o' + 1, none⟩ = some (.slice ca' cn' cc')) := fun V bV => ⟨(bV.cell (p := ⟨b, o, none⟩) hl).trans c0, (bV.cell (p := ⟨b, o + 1, none⟩) hl).trans c1, (bV.cell (p := ⟨b', o', none⟩) hl').trans d0, (bV.cell (p := ⟨b', o' + 1, none⟩) hl').trans d1⟩
    have k0' := HSS.out W.drew HBD.out
    clear c0 c1 d0 d1 e0 e1 f0 f1 hl hl'
    by_cases hQ1 : Q
    · have HN : Hid (Calls Try.prog 53 #[.slice ca cn cc, .slice ca' cn' cc'] W.drew fun e w' => e = .returned (.bool true) ∧ Below W.heap.size W.drew w') := HN0.mono (fun e w' h => by
        obtain ⟨v, rfl, hv, hb⟩ := h
        exact ⟨by rw [hv.2 hQ1], hb⟩)
      have HY : Hid D := HD.out.2 ⟨rfl, hQ1⟩
      clear HN0 HD
      go_enter Try.func51, Try.ntmps51
      go_upto_region 1 with fail
      go_region_held3 (fun V => V.cell? ⟨b, o, none⟩ = some (.string con) ∧ V.cell? ⟨b, o + 1, none⟩ = some (.slice ca cn cc) ∧ V.cell? ⟨b', o', none⟩ = some (.string con) ∧ V.cell? ⟨b', o' + 1, none⟩ = some (.slice ca' cn' cc'))
        (first | with_reducible exact k8' | with_reducible exact k0')
        (first
          | (go_at_call 53; refine HN.out.mono ?_; rintro e w8 ⟨rfl, b8⟩; have k8' := HSS.out w8 (HBD.out.trans b8); have B8 := hide (HBD.out.trans b8); clear b8))
      all_goals
        go_wp2_with fail
        go_ret
        exact SmP.yes HY.out B8.out
    · have HN : Hid (Calls Try.prog 53 #[.slice ca cn cc, .slice ca' cn' cc'] W.drew fun e w' => e = .returned (.bool false) ∧ Below W.heap.size W.drew w') := HN0.mono (fun e w' h => by
        obtain ⟨v, rfl, hv, hb⟩ := h
        cases v with
        | true => exact absurd (hv.1 rfl) hQ1
        | false => exact ⟨rfl, hb⟩)
      have HNO : Hid (¬ D) := fun e => hQ1 (HD.out.1 e).2
      clear HN0 HD
      go_enter Try.func51, Try.ntmps51
      go_upto_region 1 with fail
      go_region_held3 (fun V => V.cell? ⟨b, o, none⟩ = some (.string con) ∧ V.cell? ⟨b, o + 1, none⟩ = some (.slice ca cn cc) ∧ V.cell? ⟨b', o', none⟩ = some (.string con) ∧ V.cell? ⟨b', o' + 1, none⟩ = some (.slice ca' cn' cc'))
        (first | with_reducible exact k8' | with_reducible exact k0')
        (first
          | (go_at_call 53; refine HN.out.mono ?_; rintro e w8 ⟨rfl, b8⟩; have k8' := HSS.out w8 (HBD.out.trans b8); have B8 := hide (HBD.out.trans b8); clear b8))
      all_goals
        go_wp2_with fail
        go_ret
        exact SmP.no HNO.out B8.out
  · have HNO : Hid (¬ D) := fun e => hcon (HD.out.1 e).1
    have hne := list_ne hcon
    clear HN0 HD
    go_enter Try.func51, Try.ntmps51
    go_upto_region 1 with fail
    go_region
    all_goals
      go_wp2_with fail
      go_ret
      exact SmP.no HNO.out HBD.out

end Go.Proofs.Ytfgmgbkiebeeoaa
