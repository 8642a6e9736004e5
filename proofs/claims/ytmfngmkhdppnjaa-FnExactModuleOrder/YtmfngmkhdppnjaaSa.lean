import Derived.Test.YtmfngmkhdppnjaaOq
namespace Go.Proofs.Ytmfngmkhdppnjaa
open Go.RowKit Go.Joins

def atV (N : List ByteArray) (t : ByteArray) : Int := match atN N t with
  | some i => (i : Int)
  | none => -1

theorem lname {d : Nd} {t : ByteArray} : (d.nm.toList == t.toList) = decide (d.nm = t) := by
  by_cases e : d.nm = t
  · subst e; simp
  · have : ¬ d.nm.toList = t.toList := fun h => by
      rw [Lib.toList_data, Lib.toList_data] at h
      exact e (ByteArray.ext (Array.ext' h))
    simp [e, this]

set_option maxHeartbeats 1000000 in
set_option maxRecDepth 100000 in
theorem l7At_any (F : Fo) (a : Option Addr) (cap n n0 : Nat) (t : ByteArray) (w : World) (hs : LS w n0 F a cap) (hn0 : n0 ≤ w.heap.size) (hlen : n = F.len) (hn : n ≤ 1048576) :
    Calls Try.prog 14 #[.slice a n cap, .string t] w fun e w' => e = .returned (.int .i64 (atV (nms F.md) t)) ∧ w' = w := by
  have HS := hide hs
  have HL := hide hlen
  clear hs hlen
  go_enter Try.func14, Try.ntmps14
  go_wp2_with fail
  go_loop [5] (fun s => ∃ i : Nat, s = .int .i64 i ∧ i ≤ n ∧ Hid (∀ j, j < i → (nms F.md)[j]? ≠ some t)) (fun s => n - (intOf s).toNat)
  case atStart => exact ⟨0, rfl, Nat.zero_le _, fun j hj => by omega⟩
  case round =>
    obtain ⟨i, rfl, hi, HN⟩ := hrel
    by_cases hlt : i < n
    · have hlt' : (i : Int) < n := by omega
      obtain ⟨d, hd, b, o, rfl, hat⟩ := HS.out.get ((Below.refl _ _).mono hn0) i (by rw [← HL.out]; exact hlt)
      have c1 := hat.c1
      have HD := hide hd
      have hne := @lname d t
      clear hat hd
      by_cases ht : d.nm = t
      · rw [decide_eq_true ht] at hne
        have HA : Hid (atV (nms F.md) t = (i : Int)) := by
          have h1 : atN (nms F.md) t = some i := by
            unfold atN
            rw [List.findIdx?_eq_some_iff_getElem]
            have h2 := nms_get HD.out
            have h3 : i < (nms F.md).length := (List.getElem?_eq_some_iff.1 h2).1
            rw [List.getElem?_eq_getElem h3] at h2
            refine ⟨h3, by rw [Option.some.inj h2]; simp [ht], fun j hj => ?_⟩
            have h4 := HN.out j hj
            rw [List.getElem?_eq_getElem (by omega)] at h4
            simpa using h4
          unfold Hid atV
          rw [h1]
        clear ht
        go_wp2_with fail
        go_ret
        rw [HA.out]
        exact ⟨rfl, rfl⟩
      · rw [decide_eq_false ht] at hne
        have HN2 : Hid (∀ j, j < i + 1 → (nms F.md)[j]? ≠ some t) := fun j hj => by
          by_cases e : j = i
          · subst e
            rw [nms_get HD.out]
            simpa using ht
          · exact HN.out j (by omega)
        clear ht
        go_wp2_with fail
        go_round
        case rel => exact ⟨i + 1, by go_num, by omega, HN2⟩
        case measure => simp [intOf]; omega
    · have hlt' : ¬ (i : Int) < n := by omega
      obtain rfl : i = n := by omega
      have HA : Hid (atV (nms F.md) t = -1) := by
        have h1 : atN (nms F.md) t = none := by
          cases e : atN (nms F.md) t with
          | none => rfl
          | some j =>
            obtain ⟨h2, h3, -⟩ := atN_lt e
            have h4 : (nms F.md).length = i := by unfold nms; rw [List.length_map, Fo.md_length]; exact HL.out.symm
            exact absurd h3 (HN.out j (by omega))
        unfold Hid atV
        rw [h1]
      go_wp2_with fail
      go_ret
      rw [HA.out]
      exact ⟨rfl, rfl⟩

def rd (D : Nat → List Nat) (out : List Nat) (i : Nat) : Bool := (D i).all fun j => out.contains j
def isIn (out : List Nat) (i : Nat) : Bool := out.contains i

/-- Which are done. -/
def DR (w : World) (db n : Nat) (out : List Nat) : Prop := ∀ i, i < n → w.cell? ⟨db, i, none⟩ = some (.bool (isIn out i)) ∧ w.frozen? ⟨db, i, none⟩ = false

set_option maxHeartbeats 1000000 in
set_option maxRecDepth 100000 in
theorem l7Ready_any (F : Fo) (a : Option Addr) (cap n n0 db i0 : Nat) (out : List Nat) (d : Nd) (w : World) (hs : LS w n0 F a cap) (hn0 : n0 ≤ w.heap.size) (hlen : n = F.len) (hn : n ≤ 1048576) (hd : F.l[i0]? = some d) (hdl : d.ks.len ≤ 1048576) (hD : DR w db n out) (hdb : db < w.heap.size)
    (hg : ∀ t ∈ d.ks.ims, t ∈ nms F.md) :
    Calls Try.prog 15 #[.slice a n cap, .slice (some ⟨db, 0, none⟩) n n, nodeV d.k d.nm d.a d.ks.len d.cap] w fun e w' => e = .returned (.bool (rd (dep F.md) out i0)) ∧ Below w.heap.size w w' := by
  have hat0 : ∃ b o, a = some ⟨b, o, none⟩ ∧ d.At w (fun b => b < n0) b (o + i0 * 3) := by
    have hi : i0 < F.len := by rw [← Fo.l_length]; exact (List.getElem?_eq_some_iff.1 hd).1
    obtain ⟨d', hd', b, o, e, hat⟩ := hs.get (Below.refl _ _) i0 hi
    cases hd.symm.trans hd'
    exact ⟨b, o, e, hat⟩
  obtain ⟨ba, oa, -, hat⟩ := hat0
  have HSl := hide hat.sl
  have HDep : Hid (dep F.md i0 = d.ks.ims.map fun t => (atN (nms F.md) t).getD 0) := dep_some (md_get hd)
  have HNm : Hid (∀ e ∈ d.ks.l, e.nm.size ≤ maxLen) := fun e he => hs.name hd he
  clear hat hd
  obtain ⟨dk, dn, da, dc, ks⟩ := d
  simp only at hdl hg HSl HDep HNm ⊢
  unfold nodeV
  have b0 := below_alloc1 w (.cells #[.int .i64 dk, .string dn, .slice da ks.len dc] 37)
  have q0 := Box3.new w (.int .i64 dk) (.string dn) (.slice da ks.len dc) 37
  have hc2 := q0.c2
  have hz0 : (w.alloc (.cells #[.int .i64 dk, .string dn, .slice da ks.len dc] 37)).heap.size = w.heap.size + 1 := by simp
  have HS : Hid (LS (w.alloc (.cells #[.int .i64 dk, .string dn, .slice da ks.len dc] 37)) n0 F a cap) := Fo.Sl.below b0 (fun c hc => by omega) hs
  have HSK : Hid (ks.Sl (w.alloc (.cells #[.int .i64 dk, .string dn, .slice da ks.len dc] 37)) (fun b => b < n0) da dc) := HSl.out.below b0 (fun c hc => by omega)
  have HDD : Hid (DR (w.alloc (.cells #[.int .i64 dk, .string dn, .slice da ks.len dc] 37)) db n out) := fun i hi => ⟨(b0.cell (p := ⟨db, i, none⟩) hdb).trans (hD i hi).1, (b0.frozen (p := ⟨db, i, none⟩) hdb).trans (hD i hi).2⟩
  have HG := hide hg
  have HL := hide hlen
  clear hs hD hg hlen q0 HSl
  go_enter Try.func15, Try.ntmps15
  go_wp2_with fail
  generalize w.alloc (.cells #[.int .i64 dk, .string dn, .slice da ks.len dc] 37) = w0 at *
  have HZ0 := hide hz0
  clear hz0
  go_loop [7] (fun s => ∃ i : Nat, s = .int .i64 i ∧ i ≤ ks.len ∧ Hid (∀ r e, r < i → ks.l[r]? = some e → e.k = 67 → out.contains ((atN (nms F.md) e.nm).getD 0) = true)) (fun s => ks.len - (intOf s).toNat)
  case atStart => exact ⟨0, rfl, Nat.zero_le _, fun r e hr => by omega⟩
  case round =>
    obtain ⟨i, rfl, hi, HI⟩ := hrel
    by_cases hlt : i < ks.len
    · have hlt' : (i : Int) < ks.len := by omega
      obtain ⟨e, he⟩ : ∃ e, ks.l[i]? = some e := ⟨ks.l[i]'(by rw [Fo.l_length]; exact hlt), by simp [Fo.l_length, hlt]⟩
      obtain ⟨b, o, rfl, hb, hrow⟩ := HSK.out.2.2 (by omega)
      have hate := hrow.get i e he
      have c0 := hate.c0
      have c1 := hate.c1
      have HE := hide he
      clear hate he hrow
      by_cases hk : e.k = 67
      · have hk' : (e.k == 67) = true := by simp [hk]
        have hti : e.nm ∈ ks.ims := by
          rw [Fo.ims_l]
          exact List.mem_map.2 ⟨e, List.mem_filter.2 ⟨List.mem_of_getElem? HE.out, by simp [hk]⟩, rfl⟩
        obtain ⟨x, hx⟩ : ∃ x, atN (nms F.md) e.nm = some x := Option.isSome_iff_exists.1 (atN_some (HG.out _ hti))
        have hxn : x < n := by
          have h1 := (atN_lt hx).1
          unfold nms at h1
          rw [List.length_map, Fo.md_length] at h1
          rw [HL.out]; exact h1
        have hxn' : (x : Int) < n := by omega
        obtain ⟨cd, -⟩ := HDD.out x hxn
        have HAt : Hid (Calls Try.prog 14 #[.slice a n cap, .string e.nm] w0 fun e w' => e = .returned (.int .i64 (x : Int)) ∧ w' = w0) := by
          have h1 := l7At_any F a cap n n0 e.nm w0 HS.out (by have := HZ0.out; omega) HL.out hn
          have h2 : atV (nms F.md) e.nm = (x : Int) := by unfold atV; rw [hx]
          rw [h2] at h1
          exact h1
        by_cases ho : out.contains x = true
        · rw [show isIn out x = true from ho] at cd
          have HI2 : Hid (∀ r e, r < i + 1 → ks.l[r]? = some e → e.k = 67 → out.contains ((atN (nms F.md) e.nm).getD 0) = true) := fun r e' hr he' hk' => by
            by_cases er : r = i
            · subst er
              cases HE.out.symm.trans he'
              rw [hx]; exact ho
            · exact HI.out r e' (by omega) he' hk'
          clear hk hti hx ho
          go_wp2_with fail
          refine HAt.out.mono ?_
          rintro e1 w1 ⟨rfl, rfl⟩
          go_wp2_with fail
          go_round
          case rel => exact ⟨i + 1, by go_num, by omega, HI2⟩
          case measure => simp [intOf]; omega
        · have ho' : out.contains x = false := by simpa using ho
          rw [show isIn out x = false from ho'] at cd
          have HR : Hid (rd (dep F.md) out i0 = false) := by
            unfold Hid rd
            rw [HDep.out, List.all_eq_false]
            exact ⟨x, List.mem_map.2 ⟨e.nm, hti, by rw [hx]; rfl⟩, by rw [ho']; simp⟩
          clear hk hti hx ho ho'
          go_wp2_with fail
          refine HAt.out.mono ?_
          rintro e1 w1 ⟨rfl, rfl⟩
          go_wp2_with fail
          go_ret
          rw [HR.out]
          exact ⟨rfl, b0⟩
      · have hk' : (e.k == 67) = false := by simp [hk]
        have HI2 : Hid (∀ r e, r < i + 1 → ks.l[r]? = some e → e.k = 67 → out.contains ((atN (nms F.md) e.nm).getD 0) = true) := fun r e' hr he' hk' => by
          by_cases er : r = i
          · subst er
            cases HE.out.symm.trans he'
            exact absurd hk' hk
          · exact HI.out r e' (by omega) he' hk'
        clear hk
        go_wp2_with fail
        go_round
        case rel => exact ⟨i + 1, by go_num, by omega, HI2⟩
        case measure => simp [intOf]; omega
    · have hlt' : ¬ (i : Int) < ks.len := by omega
      obtain rfl : i = ks.len := by omega
      have HR : Hid (rd (dep F.md) out i0 = true) := by
        unfold Hid rd
        rw [HDep.out, List.all_eq_true]
        intro x hx
        obtain ⟨t, ht, rfl⟩ := List.mem_map.1 hx
        rw [Fo.ims_l] at ht
        obtain ⟨e, he, rfl⟩ := List.mem_map.1 ht
        obtain ⟨h1, h2⟩ := List.mem_filter.1 he
        obtain ⟨r, hr⟩ := List.getElem?_of_mem h1
        exact HI.out r e (by rw [← Fo.l_length]; exact (List.getElem?_eq_some_iff.1 hr).1) hr (by simpa using h2)
      go_wp2_with fail
      go_ret
      rw [HR.out]
      exact ⟨rfl, b0⟩

end Go.Proofs.Ytmfngmkhdppnjaa
