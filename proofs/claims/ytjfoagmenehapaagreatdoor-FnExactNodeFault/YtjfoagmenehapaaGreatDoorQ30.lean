import Derived.Test.YtjfoagmenehapaaGreatDoorQ29
import Derived.Test.YtjfoagmenehapaaGreatDoorQ03
namespace Go.Proofs.YtjfoagmenehapaaGreatDoor.Tree
open Go.RowKit Go.Shelf Go.Joins

attribute [local go_sem] Oper.semAt_some

/-- A text's byte. -/
def by8 (s : ByteArray) (i : Nat) : UInt8 := s.data.toList.getD i 0
theorem by8_at {s : ByteArray} {i : Nat} (h : i < s.size) : s[i] = by8 s i := by
  unfold by8
  have h1 : i < s.data.toList.length := by rw [Array.length_toList]; exact h
  rw [List.getD_eq_getElem?_getD, List.getElem?_eq_getElem h1, Option.getD_some, Array.getElem_toList]
  rfl

/-- The fields that are still to come. -/
def remF (s : ByteArray) : Nat → Nat → Option Nat → List ByteArray
  | 0, _, none => []
  | 0, _, some a => [s.extract a s.size]
  | m + 1, i, st => if Lib.isSp (by8 s i) = true then (match st with | none => remF s m (i + 1) none | some a => s.extract a i :: remF s m (i + 1) none) else remF s m (i + 1) (some (st.getD i))

def encsT (LL : List ByteArray) (k : Nat) : Array Value := #[.string (LL.getD k ⟨#[]⟩)]

/-- The table of blanks, in its block. -/
def TbAt (W : World) : Prop := ∀ c : Nat, c < 256 → W.cell? ⟨0, c, none⟩ = some (.int .u8 (if Lib.isSp (UInt8.ofNat c) then 1 else 0))

theorem TbAt.kept {A B : World} {S : Nat → Prop} (h : TbAt A) (k : Kept S A B) (hs : S 0) : TbAt B := fun c hc => by
  have h1 := h c hc
  exact (k.cell (p := ⟨0, c, none⟩) (block_lt_of_cell h1) hs).trans h1

theorem of8 (x : UInt8) : UInt8.ofNat x.toNat = x := by simp

theorem drop_cons {LL : List ByteArray} {k : Nat} {x : ByteArray} {R : List ByteArray} (h : LL.drop k = x :: R) : k < LL.length ∧ LL.getD k ⟨#[]⟩ = x ∧ LL.drop (k + 1) = R := by
  have hk : k < LL.length := by
    rcases Nat.lt_or_ge k LL.length with h1 | h1
    · exact h1
    · rw [List.drop_eq_nil_of_le h1] at h; cases h
  rw [List.drop_eq_getElem_cons hk] at h
  obtain ⟨h1, h2⟩ := List.cons.inj h
  exact ⟨hk, by rw [List.getD_eq_getElem?_getD, List.getElem?_eq_getElem hk, Option.getD_some]; exact h1, h2⟩

def stV : Option Nat → Value
  | none => .int .i64 (-1)
  | some a => .int .i64 a

set_option maxRecDepth 100000 in
set_option maxHeartbeats 2000000 in
theorem fields_seq (n : Nat) (hn : 1 ≤ n) (rb : Nat) (s : ByteArray) (S : Nat → Prop) (w : World) (hS0 : S 0) (hSr : S rb) (hrb : w.cell? ⟨rb, 0, none⟩ = some (.string s)) (htb : TbAt w) (hsz : s.size ≤ 1000) (hasc : ∀ i, i < s.size → (by8 s i).toNat < 128) :
    SeqS (P := Tryz.prog) Fence.wide n 72 #[.pointer (some ⟨rb, 0, none⟩)] (encsT (remF s s.size 0 none)) (remF s s.size 0 none).length S w := by
  intro l J Jx W hW hJ hJx hY h0
  have hcW : W.cell? ⟨rb, 0, none⟩ = some (.string s) := (hW.cell (p := ⟨rb, 0, none⟩) (block_lt_of_cell hrb)).trans hrb
  have htW : TbAt W := htb.kept (Kept.of_below (S := fun _ => True) hW (fun b hb _ => hb)) trivial
  obtain ⟨LL, hLL⟩ : ∃ LL, LL = remF s s.size 0 none := ⟨_, rfl⟩
  rw [← hLL] at hY ⊢
  have HLL : Hid (LL.drop 0 = remF s (s.size - 0) 0 none) := hLL
  have HY := hide hY
  have HA := hide hasc
  clear hLL hY hrb htb hasc
  refine callsIn_of_wp Tryz.func72 rfl trivial ?_ rfl
  simp only [Tryz.ntmps72, List.size_toArray, List.length_cons, List.length_nil, Nat.reduceAdd, Nat.reduceSub, Array.replicate_succ, Array.replicate_zero, List.push_toArray, List.append_toArray, List.nil_append, List.cons_append]
  gi_wp2_with fail
  gi_loopw [3, 4, 5, 6, 7] (fun s3 s4 _ _ _ wr => ∃ (i k : Nat) (st : Option Nat), s3 = stV st ∧ s4 = .int .i64 i ∧ i ≤ s.size ∧ k ≤ LL.length ∧ (∀ a, st = some a → a ≤ i) ∧ Hid (LL.drop k = remF s (s.size - i) i st) ∧ Hid (J k (fun _ => False) wr) ∧ wr.cell? ⟨rb, 0, none⟩ = some (.string s) ∧ Hid (TbAt wr)) (fun _ s4 _ _ _ _ => s.size - (intOf s4).toNat)
  case atStart => exact ⟨0, 0, none, rfl, rfl, Nat.zero_le _, Nat.zero_le _, fun a h => (by cases h), HLL, h0, hcW, htW⟩
  case round =>
    obtain ⟨i, k, st, rfl, rfl, hi, hkl, hst, HR, HJ, hc, HT⟩ := hrel
    by_cases hlt : i < s.size
    · have hlt' : (i : Int) < s.size := by omega
      have hb := by8_at hlt
      have h128 : ((s[i]).toNat : Int) < 128 := by rw [hb]; have := HA.out i hlt; omega
      have htc := HT.out (s[i]).toNat (by rw [hb]; have := HA.out i hlt; omega)
      rw [of8] at htc
      have hsub : s.size - i = (s.size - (i + 1)) + 1 := by omega
      have hR := HR.out
      rw [hsub] at hR
      simp only [remF, ← hb] at hR
      have hib : (i : Int) < 1000 := by omega
      clear HR hsub hb HA
      cases hX : Lib.isSp s[i] with
      | true =>
        rw [hX, if_pos rfl] at hR
        rw [hX, if_pos rfl] at htc
        clear hX
        cases st with
        | none =>
          have HR := hide hR
          simp only [stV]
          clear hR hst
          gi_wp2_with fail
          go_roundw
          case rel => exact ⟨i + 1, k, none, rfl, by go_num, by omega, hkl, fun a h => (by cases h), HR, HJ, hc, HT⟩
          case measure => simp [intOf]; omega
        | some a =>
          have ha := hst a rfl
          have ha' : (a : Int) ≤ i := by omega
          have hi2 : (i : Int) ≤ s.size := by omega
          obtain ⟨hk1, hk2, hk3⟩ := drop_cons hR
          have HR := hide hk3
          obtain ⟨fn, tmps, assign, body, hy, hYR⟩ := HY.out k (fun _ => False) wr hk1 (fun b h => h.elim) HJ.out
          unfold encsT at hy
          rw [hk2] at hy
          have HYR := hide hYR
          simp only [stV]
          clear hR hst hYR hk2 hk3
          gi_wp2_with fail
          refine HYR.out.mono ?_
          rintro e W3 ⟨hK, (⟨rfl, hj⟩ | ⟨rfl, hj⟩)⟩
          · have hc3 := (hK.cell (p := ⟨rb, 0, none⟩) (block_lt_of_cell hc) (.inr hSr)).trans hc
            have HT3 := hide (HT.out.kept hK (.inr hS0))
            have HJ3 := hide hj
            clear hj hc htc
            gi_wp2_with fail
            go_roundw
            case rel => exact ⟨i + 1, k + 1, none, rfl, by go_num, by omega, hk1, fun a h => (by cases h), HR, HJ3, hc3, HT3⟩
            case measure => simp [intOf]; omega
          · have HJ3 := hide hj
            clear hj
            gi_wp2_with fail
            refine bodyPost_ret (results_none rfl _ _ _) rfl ?_
            exact ⟨⟨_, rfl⟩, .inr ⟨k, _, hk1, HJ3.out⟩⟩
      | false =>
        rw [hX, if_neg (by decide)] at hR
        rw [hX, if_neg (by decide)] at htc
        clear hX
        have HR := hide hR
        cases st with
        | none =>
          simp only [stV]
          clear hR hst
          gi_wp2_with fail
          go_roundw
          case rel => exact ⟨i + 1, k, some i, rfl, by go_num, by omega, hkl, fun a h => (by cases h; omega), HR, HJ, hc, HT⟩
          case measure => simp [intOf]; omega
        | some a =>
          have ha := hst a rfl
          have ha' : ¬ (a : Int) < 0 := by omega
          simp only [stV]
          clear hR hst
          gi_wp2_with fail
          go_roundw
          case rel => exact ⟨i + 1, k, some a, rfl, by go_num, by omega, hkl, fun b h => (by cases h; omega), HR, HJ, hc, HT⟩
          case measure => simp [intOf]; omega
    · have hlt' : ¬ (i : Int) < s.size := by omega
      obtain rfl : i = s.size := by omega
      have hR := HR.out
      rw [Nat.sub_self] at hR
      clear HR
      cases st with
      | none =>
        have hN : k = LL.length := by
          have : LL.drop k = [] := hR
          have := List.drop_eq_nil_iff.1 this
          omega
        simp only [stV]
        clear hR hst
        gi_wp2_with fail
        go_end0
        exact ⟨⟨_, rfl⟩, .inl ⟨_, by rw [← hN]; exact HJ.out⟩⟩
      | some a =>
        have ha := hst a rfl
        have ha' : (a : Int) ≤ s.size := by omega
        have ha0 : (0 : Int) ≤ a := by omega
        obtain ⟨hk1, hk2, hk3⟩ := drop_cons (show LL.drop k = s.extract a s.size :: [] from hR)
        have hN : k + 1 = LL.length := by
          have := List.drop_eq_nil_iff.1 hk3
          omega
        obtain ⟨fn, tmps, assign, body, hy, hYR⟩ := HY.out k (fun _ => False) wr hk1 (fun b h => h.elim) HJ.out
        unfold encsT at hy
        rw [hk2] at hy
        have HYR := hide hYR
        simp only [stV]
        clear hR hst hYR hk2 hk3
        gi_wp2_with fail
        refine HYR.out.mono ?_
        rintro e W3 ⟨hK, (⟨rfl, hj⟩ | ⟨rfl, hj⟩)⟩
        · have HJ3 := hide hj
          clear hj
          gi_wp2_with fail
          go_end0
          exact ⟨⟨_, rfl⟩, .inl ⟨_, by rw [← hN]; exact HJ3.out⟩⟩
        · have HJ3 := hide hj
          clear hj
          gi_wp2_with fail
          go_end0
          exact ⟨⟨_, rfl⟩, .inr ⟨k, _, hk1, HJ3.out⟩⟩

end Go.Proofs.YtjfoagmenehapaaGreatDoor.Tree

namespace Go.Proofs.YtjfoagmenehapaaGreatDoor.Tree
open Go.RowKit Go.Shelf Go.Joins

attribute [local go_sem] Oper.semAt_some

def starP (p : ByteArray) : Bool := Lib.hasSuffix p.data.toList [42]
/-- Whether kids are of the classes that the parts of a shape ask for. -/
def shp (cq : ByteArray → Kn → Bool) : List ByteArray → List Kn → Bool
  | [], L => L.length == 0
  | p :: R, L => if run (cq p) L = 0 ∧ starP p = false then false else shp cq R (L.drop (if (p.toList == (trimP p).toList) = true then 1 else run (cq p) L))

theorem Kids.drop {W : World} {n0 : Nat} {a : Option Addr} {L : List Kn} {n cap t : Nat} (h : Kids W n0 a L) (hl : L.length = n) (hc : n ≤ cap) (_ht : t ≤ n) : Kids W n0 (if cap = t then a else a.map (·.add (t * 3))) (L.drop t) := fun hp => by
  rw [List.length_drop] at hp
  obtain ⟨b, o, rfl, hb, hr⟩ := h (by omega)
  rw [if_neg (by omega)]
  refine ⟨b, o + t * 3, by simp [addr_add], hb, fun i x hx => ?_⟩
  rw [List.getElem?_drop] at hx
  have := hr _ x hx
  have e : o + (t + i) * 3 = o + t * 3 + i * 3 := by omega
  rwa [e] at this

theorem Hold.next {w : World} {c : Nat} {O : Nat → Prop} {A B : World} {v : Value} (h : Hold w c v O A) (k : Below A.heap.size A B) : Hold w c v O B := by
  obtain ⟨h1, h2, h3, h4, h5⟩ := h
  have hl : c < A.heap.size := block_lt_of_cell h1
  exact ⟨(k.cell (p := ⟨c, 0, none⟩) hl).trans h1, (k.frozen (p := ⟨c, 0, none⟩) hl).trans h2, h3, h4.trans (k.mono h4.size), h5⟩

theorem run_kids (a : Option Addr) (n cap t : Nat) (w : World) (h : t ≤ n) :
    (Instr.slice 27 (.slice a n cap) (some (.int .i64 (t : Int))) none none).run Tryz.prog w = .ok (.slice (if cap = t then a else a.map (·.add (t * 3))) (n - t) (cap - t)) w := by
  have hs : (sizeOf (Tryz.prog.elem 27)).run Tryz.prog w = .ok 3 w := by kernel_rfl
  rw [run_slice_l (P := Tryz.prog) w 27 a n cap (by kernel_rfl) .i64 (t : Int) (by omega) (by omega), hs]
  simp [Result.andThen, sliced]

set_option maxHeartbeats 1000000 in
theorem fieldsSeq_in (n : Nat) (s : ByteArray) (w : World) :
    CallsIn Fence.wide n Tryz.prog 44 #[.string s] w fun e w' => e = .returned (.func (.func 72) #[] #[.pointer (some ⟨w.heap.size, 0, none⟩)]) ∧ w' = w.alloc (.cells #[.string s] 9) := by
  refine callsIn_of_wp Tryz.func44 rfl trivial ?_ rfl
  simp only [Tryz.ntmps44, List.size_toArray, List.length_cons, List.length_nil, Nat.reduceAdd, Nat.reduceSub, Array.replicate_succ, Array.replicate_zero, List.push_toArray, List.append_toArray, List.nil_append, List.cons_append]
  gi_wp2_with fail
  exact bodyPost_ret (results_tmp rfl _ _ _) rfl ⟨rfl, rfl⟩

/-- How far the shape was gone through. -/
def ShI (w : World) (c r : Nat) (cq : ByteArray → Kn → Bool) (LL : List ByteArray) (T : Bool) (k : Nat) (O : Nat → Prop) (W : World) : Prop :=
  (∃ (a : Option Addr) (n cap : Nat) (L : List Kn), Hold w c (.slice a n cap) O W ∧ L.length = n ∧ n ≤ cap ∧ cap ≤ maxLen ∧ Kids w w.heap.size a L ∧ T = shp cq (LL.drop k) L) ∧ Hold w r (.bool false) O W
def ShX (w : World) (r : Nat) (T : Bool) (cd : Code) (_ : Nat) (O : Nat → Prop) (W : World) : Prop := cd = .ret ∧ Hold w r (.bool false) O W ∧ T = false
theorem ShI.abid (w : World) (c r : Nat) (cq : ByteArray → Kn → Bool) (LL : List ByteArray) (T : Bool) : Abid (ShI w c r cq LL T) := fun _ _ _ _ _ h hK hn => by
  obtain ⟨⟨a, n, cap, L, h1, h2⟩, h3⟩ := h
  exact ⟨⟨a, n, cap, L, h1.abid hK hn, h2⟩, h3.abid hK hn⟩
theorem ShX.abid (w : World) (r : Nat) (T : Bool) (cd : Code) : Abid (ShX w r T cd) := fun _ _ _ _ _ h hK hn => ⟨h.1, h.2.1.abid hK hn, h.2.2⟩

set_option maxRecDepth 100000 in
set_option maxHeartbeats 4000000 in
theorem ishaped_in (n : Nat) (hn : 3 ≤ n) (s : ByteArray) (cq : ByteArray → Kn → Bool) (a : Option Addr) (m cap : Nat) (L : List Kn) (w : World) (hl : L.length = m) (hmc : m ≤ cap) (hcm : cap ≤ maxLen) (hk : Kids w w.heap.size a L)
    (htb : TbAt w) (hsz : s.size ≤ 1000) (hasc : ∀ i, i < s.size → (by8 s i).toNat < 128) (hcls : ∀ p, p ∈ remF s s.size 0 none → p.size ≤ 1000 ∧ ClsAt (trimP p) (cq p) ∧ (starP p = true → (p.toList == (trimP p).toList) = false)) :
    CallsIn Fence.wide n Tryz.prog 29 #[.slice a m cap, .string s] w fun e W' => e = .returned (.bool (shp cq (remF s s.size 0 none) L)) ∧ Below w.heap.size w W' := by
  have h1 : 1 ≤ n := by omega
  obtain ⟨T, hT⟩ : ∃ T, T = shp cq (remF s s.size 0 none) L := ⟨_, rfl⟩
  rw [← hT]
  refine callsIn_of_wp_marks Tryz.func29 rfl trivial ?_ rfl
  simp only [Tryz.ntmps29, List.size_toArray, List.length_cons, List.length_nil, Nat.reduceAdd, Nat.reduceSub, Array.replicate_succ, Array.replicate_zero, List.push_toArray, List.append_toArray, List.nil_append, List.cons_append]
  gi_wp2_with (refine ⟨trivial, ?_⟩; gi_at_call 44; refine (fieldsSeq_in (n - 1) _ _).mono ?_; rintro e w' ⟨rfl, rfl⟩)
  obtain ⟨W0, hW0⟩ : ∃ W0, ((w.alloc (.cells #[.slice a m cap] 27)).alloc (.cells #[.bool false] 4)).alloc (.cells #[.string s] 9) = W0 := ⟨_, rfl⟩
  have h1c : ∀ (A : World) (v : Value) (t : TypeId), (A.alloc (.cells #[v] t)).cell? ⟨A.heap.size, 0, none⟩ = some v ∧ (A.alloc (.cells #[v] t)).frozen? ⟨A.heap.size, 0, none⟩ = false := fun A v t => ⟨by simp, by simp⟩
  have z0 : W0.heap.size = w.heap.size + 3 := by rw [← hW0]; simp
  have hB0 : Below w.heap.size w W0 := by rw [← hW0]; exact below_alloc3 _ _ _ _
  have hc0 : Hold w w.heap.size (.slice a m cap) (fun _ => False) W0 := by
    have h2 := h1c w (.slice a m cap) 27
    have hcl := below_alloc2 (w.alloc (.cells #[.slice a m cap] 27)) (.cells #[.bool false] 4) (.cells #[.string s] 9)
    rw [hW0] at hcl
    exact ⟨(hcl.cell (p := ⟨w.heap.size, 0, none⟩) (by simp)).trans h2.1, (hcl.frozen (p := ⟨w.heap.size, 0, none⟩) (by simp)).trans h2.2, fun z => z, hB0, fun _ z => z.elim⟩
  have hr0 : Hold w (w.heap.size + 1) (.bool false) (fun _ => False) W0 := by
    have h2 := h1c (w.alloc (.cells #[.slice a m cap] 27)) (.bool false) 4
    rw [World.size_alloc] at h2
    have hcl := below_alloc1 ((w.alloc (.cells #[.slice a m cap] 27)).alloc (.cells #[.bool false] 4)) (.cells #[.string s] 9)
    rw [hW0] at hcl
    exact ⟨(hcl.cell (p := ⟨w.heap.size + 1, 0, none⟩) (by simp)).trans h2.1, (hcl.frozen (p := ⟨w.heap.size + 1, 0, none⟩) (by simp)).trans h2.2, fun z => z, hB0, fun _ z => z.elim⟩
  have hs0 : W0.cell? ⟨w.heap.size + 1 + 1, 0, none⟩ = some (.string s) := by
    have h2 := h1c ((w.alloc (.cells #[.slice a m cap] 27)).alloc (.cells #[.bool false] 4)) (.string s) 9
    rw [World.size_alloc, World.size_alloc, hW0] at h2
    exact h2.1
  have htb0 : TbAt W0 := htb.kept (Kept.of_below (S := fun _ => True) hB0 (fun b hb _ => hb)) trivial
  have h0w : 0 < w.heap.size := block_lt_of_cell (htb 0 (by omega))
  obtain ⟨LL, hLL⟩ : ∃ LL, LL = remF s s.size 0 none := ⟨_, rfl⟩
  have hI0 : ShI w w.heap.size (w.heap.size + 1) cq LL T 0 (fun _ => False) W0 := ⟨⟨a, m, cap, L, hc0, hl, hmc, hcm, hk, by rw [hT, hLL]; rfl⟩, hr0⟩
  have hseq := fields_seq (n - 1) (by omega) (w.heap.size + 1 + 1) s (fun b => b < w.heap.size ∨ b = w.heap.size + 1 + 1) W0 (.inl h0w) (.inr rfl) hs0 htb0 hsz hasc
  rw [← hLL] at hseq hcls
  have HCL := hide hcls
  rw [hW0]
  clear hW0 h1c hc0 hr0 hs0 htb0 htb hcls hk hl hmc hcm hT hasc
  refine wpIn_rangeS rfl h1 (gf := 72) (lb := #[.pointer (some ⟨w.heap.size + 1 + 1, 0, none⟩)]) rfl trivial (enters_of Tryz.func72 (by kernel_rfl) rfl) hseq (Below.refl _ _) (fun b hb => by rcases hb with hb | hb <;> omega) (fun _ => rfl)
    (ShI w w.heap.size (w.heap.size + 1) cq LL T) (ShX w (w.heap.size + 1) T) (ShI.abid _ _ _ _ _ _) (ShX.abid _ _ _) hI0
    (fun i _ a' _ => a' = { tmps := #[.slice a m cap, .string s, .pointer (some ⟨w.heap.size, 0, none⟩), undef, .pointer (some ⟨w.heap.size + 1, 0, none⟩), .string (LL.getD i ⟨#[]⟩), undef, undef, .string s,
      .func (.func 72) #[] #[.pointer (some ⟨w.heap.size + 1 + 1, 0, none⟩)], .string (LL.getD i ⟨#[]⟩), undef, undef, undef, undef, undef, undef, undef, undef, undef, undef, undef, undef, undef, undef, undef, undef, undef, undef, undef, undef, undef], defers := [] })
    ?assign ?body ?done ?stop
  case assign =>
    intro l i O W K _ _ hI hK
    have hK2 := hK _ W (Kept.refl _ _) hI rfl
    clear hK hI
    simp only [encsT]
    generalize List.getD LL i ⟨#[]⟩ = p at hK2 ⊢
    gi_wp2
    simpa using hK2
  case body =>
    rintro l i O a' W1 W hi rfl _ _ ⟨⟨a2, n2, cap2, L2, hc, hl2, hnc2, hcm2, hk2, hT2⟩, hr⟩ hO
    have hdr := List.drop_eq_getElem_cons hi
    have hgd : LL.getD i ⟨#[]⟩ = LL[i] := by rw [List.getD_eq_getElem?_getD, List.getElem?_eq_getElem hi, Option.getD_some]
    rw [hgd]
    obtain ⟨hps, hcl, hstar⟩ := HCL.out LL[i] (List.getElem_mem hi)
    rw [hdr] at hT2
    generalize LL[i] = p at *
    obtain ⟨R, hdR⟩ : ∃ R, LL.drop (i + 1) = R := ⟨_, rfl⟩
    rw [hdR] at hT2
    have H1 := hide (iTrim p W (by omega))
    have HTn : Hid (T = if run (cq p) L2 = 0 ∧ starP p = false then false else shp cq R (L2.drop (if (p.toList == (trimP p).toList) = true then 1 else run (cq p) L2))) := hT2
    have hrl := run_le (cq p) L2
    rw [hl2] at hrl
    have hmx2 : (n2 : Int) ≤ 9223372036854775807 := by simp only [maxLen] at hcm2; omega
    have HC := hide hc
    have HRr := hide hr
    have HR2 : Hid (∀ wx, Below w.heap.size w wx → Calls Tryz.prog 46 #[.slice a2 n2 cap2, .string (trimP p)] wx fun e W' => e = .returned (.int .i64 (run (cq p) L2)) ∧ Below wx.heap.size wx W') := fun wx hb => iRun (trimP p) (cq p) hcl a2 n2 cap2 L2 wx hl2 (by omega) (hk2.at hb)
    have H3 : Hid (∀ wx, Calls Tryz.prog 47 #[.string p, .string ⟨#[42]⟩] wx fun e w' => e = .returned (.bool (starP p)) ∧ w' = wx) := fun wx => Tryz.strings_HasSuffix p ⟨#[42]⟩ wx (by omega)
    have HKD := hide hk2
    -- how a round ends well
    have hgo : ∀ (t : Nat) (a3 : Option Addr) (n3 c3 : Nat) (w2 : World), n3 = n2 - t → n3 ≤ c3 → c3 ≤ maxLen → Kids w w.heap.size a3 (L2.drop t) → Below W.heap.size W w2 → T = shp cq R (L2.drop t) → Hold w w.heap.size (.slice a2 n2 cap2) O w2 → Hold w (w.heap.size + 1) (.bool false) O w2 →
        Kept (fun b => O b ∨ (b < w.heap.size ∨ b = w.heap.size + 1 + 1)) W (w2.setCell ⟨w.heap.size, 0, none⟩ (.slice a3 n3 c3)) ∧
        ShI w w.heap.size (w.heap.size + 1) cq LL T (i + 1) O (w2.setCell ⟨w.heap.size, 0, none⟩ (.slice a3 n3 c3)) := by
      intro t a3 n3 c3 w2 hn3 hc3 hm3 hk3 hb2 hT3 g1 g2
      refine ⟨(Kept.of_below hb2 (fun b hb _ => hb)).trans (Kept.setCell _ _ _ _ ?_), ⟨_, _, _, L2.drop t, g1.set _ (Nat.le_refl _), by rw [List.length_drop, hl2, hn3], hc3, hm3, hk3, ?_⟩, g2.other _ (Nat.le_refl _) (by omega)⟩
      · rintro (h | h | h)
        · exact g1.2.2.1 h
        · exact absurd h (Nat.lt_irrefl _)
        · exact absurd h (by show ¬ (w.heap.size = w.heap.size + 1 + 1); omega)
      · rw [hT3, hdR]
    have HGO := hide hgo
    have hbw := hc.2.2.2.1
    have hcm3 : cap2 ≤ maxLen := hcm2
    clear hgo hc hr hT2 hk2 hcl hdr HCL hdR hgd hLL hseq hI0
    obtain ⟨t, ht⟩ : ∃ t, run (cq p) L2 = t := ⟨_, rfl⟩
    rw [ht] at HTn hrl
    by_cases ht0 : t = 0
    · subst ht0
      cases hS : starP p with
      | false =>
        rw [hS] at HTn H3
        have HT3 : Hid (T = false) := by unfold Hid; rw [HTn.out, if_pos ⟨rfl, rfl⟩]
        clear HTn hS hstar
        gi_wp2_with (refine ⟨trivial, fun h => (by cases h), ?_⟩; gi_at_call 45; refine (CallsIn.inRound l (callsIn_wide.2 H1.out)).mono ?_; rintro e w1 ⟨rfl, b1⟩; have k1 := HC.out.next b1; have r1 := HRr.out.next b1; have x1 := k1.1)
        have H2 := hide (HR2.out w1 k1.2.2.2.1)
        rw [ht] at H2
        gi_wp2_with (refine ⟨trivial, fun h => (by cases h), ?_⟩; gi_at_call 46; refine (CallsIn.inRound l (callsIn_wide.2 H2.out)).mono ?_; rintro e w2 ⟨rfl, b2⟩; have k2 := k1.next b2; have r2 := r1.next b2; have x2 := k2.1; have x3 := k2.2.1; have x4 := r2.1; have x5 := r2.2.1)
        have hb2 := b1.trans (b2.mono b1.size)
        gi_wp2_with (refine ⟨trivial, fun h => (by cases h), ?_⟩; gi_at_call 47; refine (CallsIn.inRound l (callsIn_wide.2 (H3.out w2))).mono ?_; rintro e w3 ⟨rfl, rfl⟩)
        refine ⟨(Kept.of_below hb2 (fun b hb _ => hb)).trans (Kept.setCell _ _ _ _ ?_), rfl, r2.set _ (by omega), HT3.out⟩
        rintro (h | h | h)
        · exact r2.2.2.1 h
        · exact absurd h (by show ¬ (w.heap.size + 1 < w.heap.size); omega)
        · exact absurd h (by show ¬ (w.heap.size + 1 = w.heap.size + 1 + 1); omega)
      | true =>
        have hne := hstar hS
        rw [hS] at HTn H3
        have HT3 : Hid (T = shp cq R (L2.drop 0)) := by unfold Hid; rw [HTn.out, if_neg (by simp), hne, if_neg (by decide)]
        clear HTn hS hstar
        gi_wp2_with (refine ⟨trivial, fun h => (by cases h), ?_⟩; gi_at_call 45; refine (CallsIn.inRound l (callsIn_wide.2 H1.out)).mono ?_; rintro e w1 ⟨rfl, b1⟩; have k1 := HC.out.next b1; have r1 := HRr.out.next b1; have x1 := k1.1)
        have H2 := hide (HR2.out w1 k1.2.2.2.1)
        rw [ht] at H2
        gi_wp2_with (refine ⟨trivial, fun h => (by cases h), ?_⟩; gi_at_call 46; refine (CallsIn.inRound l (callsIn_wide.2 H2.out)).mono ?_; rintro e w2 ⟨rfl, b2⟩; have k2 := k1.next b2; have r2 := r1.next b2; have x2 := k2.1; have x3 := k2.2.1; have x4 := r2.1; have x5 := r2.2.1)
        have hb2 := b1.trans (b2.mono b1.size)
        gi_wp2_with (refine ⟨trivial, fun h => (by cases h), ?_⟩; gi_at_call 47; refine (CallsIn.inRound l (callsIn_wide.2 (H3.out w2))).mono ?_; rintro e w3 ⟨rfl, rfl⟩)
        exact HGO.out 0 a2 n2 cap2 _ rfl hnc2 hcm3 HKD.out hb2 HT3.out k2 r2
    · have ht1 : ((t : Int) == 0) = false := beq_eq_false_iff_ne.2 (by omega)
      rcases z : (p.toList == (trimP p).toList) with _ | _
      · have HT3 : Hid (T = shp cq R (L2.drop t)) := by unfold Hid; rw [HTn.out, if_neg (fun h => ht0 h.1), z, if_neg (by decide)]
        clear HTn hstar ht0
        have hkd := HKD.out.drop hl2 hnc2 hrl
        by_cases hct : cap2 = t
        · rw [if_pos hct] at hkd
          have HK3 := hide hkd
          have HB2 : Hid (n2 - t ≤ 0) := by unfold Hid; omega
          have HB4 : Hid (0 = n2 - t) := by unfold Hid; omega
          clear hkd HKD
          subst hct
          gi_wp2_with (refine ⟨trivial, fun h => (by cases h), ?_⟩; gi_at_call 45; refine (CallsIn.inRound l (callsIn_wide.2 H1.out)).mono ?_; rintro e w1 ⟨rfl, b1⟩; have k1 := HC.out.next b1; have r1 := HRr.out.next b1; have x1 := k1.1)
          have H2 := hide (HR2.out w1 k1.2.2.2.1)
          rw [ht] at H2
          gi_wp2_with (refine ⟨trivial, fun h => (by cases h), ?_⟩; gi_at_call 46; refine (CallsIn.inRound l (callsIn_wide.2 H2.out)).mono ?_; rintro e w2 ⟨rfl, b2⟩; have k2 := k1.next b2; have r2 := r1.next b2; have x2 := k2.1; have x3 := k2.2.1; have x4 := r2.1; have x5 := r2.2.1)
          have hb2 := b1.trans (b2.mono b1.size)
          gi_wp2_with fail
          refine ⟨trivial, ?_⟩
          gi_wp2_with fail
          first | exact HGO.out _ a2 (n2 - cap2) 0 w2 rfl HB2.out (Nat.zero_le _) HK3.out hb2 HT3.out k2 r2 | exact HGO.out _ a2 0 0 w2 HB4.out (Nat.zero_le _) (Nat.zero_le _) HK3.out hb2 HT3.out k2 r2
        · rw [if_neg hct] at hkd
          have HK3 := hide hkd
          have HB2 : Hid (n2 - t ≤ cap2 - t) := by unfold Hid; omega
          have HB3 : Hid (cap2 - t ≤ maxLen) := by unfold Hid; omega
          clear hkd HKD
          gi_wp2_with (refine ⟨trivial, fun h => (by cases h), ?_⟩; gi_at_call 45; refine (CallsIn.inRound l (callsIn_wide.2 H1.out)).mono ?_; rintro e w1 ⟨rfl, b1⟩; have k1 := HC.out.next b1; have r1 := HRr.out.next b1; have x1 := k1.1)
          have H2 := hide (HR2.out w1 k1.2.2.2.1)
          rw [ht] at H2
          gi_wp2_with (refine ⟨trivial, fun h => (by cases h), ?_⟩; gi_at_call 46; refine (CallsIn.inRound l (callsIn_wide.2 H2.out)).mono ?_; rintro e w2 ⟨rfl, b2⟩; have k2 := k1.next b2; have r2 := r1.next b2; have x2 := k2.1; have x3 := k2.2.1; have x4 := r2.1; have x5 := r2.2.1)
          have hb2 := b1.trans (b2.mono b1.size)
          gi_wp2_with fail
          refine ⟨trivial, ?_⟩
          gi_wp2_with fail
          exact HGO.out t _ (n2 - t) (cap2 - t) w2 rfl HB2.out HB3.out HK3.out hb2 HT3.out k2 r2
      · have HT3 : Hid (T = shp cq R (L2.drop 1)) := by unfold Hid; rw [HTn.out, if_neg (fun h => ht0 h.1), z, if_pos rfl]
        have h1n : 1 ≤ n2 := by omega
        clear HTn hstar ht0
        have hkd := HKD.out.drop hl2 hnc2 h1n
        by_cases hct : cap2 = 1
        · rw [if_pos hct] at hkd
          have HK3 := hide hkd
          have HB4 : Hid (0 = n2 - 1) := by unfold Hid; omega
          clear hkd HKD
          subst hct
          gi_wp2_with (refine ⟨trivial, fun h => (by cases h), ?_⟩; gi_at_call 45; refine (CallsIn.inRound l (callsIn_wide.2 H1.out)).mono ?_; rintro e w1 ⟨rfl, b1⟩; have k1 := HC.out.next b1; have r1 := HRr.out.next b1; have x1 := k1.1)
          have H2 := hide (HR2.out w1 k1.2.2.2.1)
          rw [ht] at H2
          gi_wp2_with (refine ⟨trivial, fun h => (by cases h), ?_⟩; gi_at_call 46; refine (CallsIn.inRound l (callsIn_wide.2 H2.out)).mono ?_; rintro e w2 ⟨rfl, b2⟩; have k2 := k1.next b2; have r2 := r1.next b2; have x2 := k2.1; have x3 := k2.2.1; have x4 := r2.1; have x5 := r2.2.1)
          have hb2 := b1.trans (b2.mono b1.size)
          gi_wp2_with fail
          refine ⟨trivial, ?_⟩
          gi_wp2_with fail
          exact HGO.out 1 a2 0 0 w2 HB4.out (Nat.zero_le _) (Nat.zero_le _) HK3.out hb2 HT3.out k2 r2
        · rw [if_neg hct] at hkd
          have HK3 := hide hkd
          have HB2 : Hid (n2 - 1 ≤ cap2 - 1) := by unfold Hid; omega
          have HB3 : Hid (cap2 - 1 ≤ maxLen) := by unfold Hid; omega
          clear hkd HKD
          gi_wp2_with (refine ⟨trivial, fun h => (by cases h), ?_⟩; gi_at_call 45; refine (CallsIn.inRound l (callsIn_wide.2 H1.out)).mono ?_; rintro e w1 ⟨rfl, b1⟩; have k1 := HC.out.next b1; have r1 := HRr.out.next b1; have x1 := k1.1)
          have H2 := hide (HR2.out w1 k1.2.2.2.1)
          rw [ht] at H2
          gi_wp2_with (refine ⟨trivial, fun h => (by cases h), ?_⟩; gi_at_call 46; refine (CallsIn.inRound l (callsIn_wide.2 H2.out)).mono ?_; rintro e w2 ⟨rfl, b2⟩; have k2 := k1.next b2; have r2 := r1.next b2; have x2 := k2.1; have x3 := k2.2.1; have x4 := r2.1; have x5 := r2.2.1)
          have hb2 := b1.trans (b2.mono b1.size)
          gi_wp2_with fail
          refine ⟨trivial, ?_⟩
          gi_wp2_with fail
          exact HGO.out 1 _ (n2 - 1) (cap2 - 1) w2 rfl HB2.out HB3.out HK3.out hb2 HT3.out k2 r2
  case done =>
    rintro D O W hD hOD hO ⟨⟨a2, n2, cap2, L2, hc, hl2, hnc2, hcm2, hk2, hT2⟩, ⟨c1, c2, c3, c4, c5⟩⟩ hK
    have hTe : T = (n2 == 0) := by rw [hT2, List.drop_eq_nil_of_le (Nat.le_refl _)]; show (L2.length == 0) = _; rw [hl2]
    have hDc : D ≠ w.heap.size + 1 := fun e => c3 (e ▸ hOD)
    have x0 := hc.1
    obtain ⟨Z, hZ⟩ : ∃ Z, ((n2 : Int) == 0) = Z := ⟨_, rfl⟩
    have hZ2 : T = Z := by
      rw [hTe, ← hZ]
      by_cases h : n2 = 0
      · rw [h]; rfl
      · rw [beq_eq_false_iff_ne.2 h, beq_eq_false_iff_ne.2 (by omega)]
    have HZ := hide hZ2
    clear hc hT2 hk2 hTe hZ2
    gi_wp2_with fail
    have hK' := (KeepsOthers.setCell W ⟨w.heap.size + 1, 0, none⟩ (.bool Z)).same D _ hK rfl
    refine ⟨by simp, .inl ⟨_, _, rfl, run_takeDeferred hK', ?_⟩⟩
    have hcell : ((W.setCell ⟨w.heap.size + 1, 0, none⟩ (.bool Z)).putObj D (.deferred none)).cell? ⟨w.heap.size + 1, 0, none⟩ = some (.bool Z) :=
      (World.cell?_of_block (World.putObj_heap_other (Ne.symm hDc))).trans (World.cell?_setCell_same' _ _ _ (by rw [c1]; rfl))
    rw [HZ.out]
    refine ⟨.bool Z, by simp [results, Tryz.results29, go_sem, hcell], rfl, ?_⟩
    exact (c4.setCell (by show w.heap.size ≤ w.heap.size + 1; omega) _).trans (belowK_b (w := w) (Nat.le_refl _) _ D _ _ (by omega) hK' rfl rfl)
  case stop =>
    rintro D c i O W hD hOD hO hi ⟨rfl, ⟨c1, c2, c3, c4, c5⟩, ht⟩ hK
    gi_wp2_with fail
    have hDc : D ≠ w.heap.size + 1 := fun e => c3 (e ▸ hOD)
    refine ⟨by simp, .inl ⟨_, _, rfl, run_takeDeferred hK, ?_⟩⟩
    have hcell : (W.putObj D (.deferred none)).cell? ⟨w.heap.size + 1, 0, none⟩ = some (.bool false) :=
      (World.cell?_of_block (World.putObj_heap_other (Ne.symm hDc))).trans c1
    rw [ht]
    refine ⟨.bool false, by simp [results, Tryz.results29, go_sem, hcell], rfl, ?_⟩
    exact c4.trans (belowK_b (w := w) (Nat.le_refl _) _ D _ _ (by omega) hK rfl rfl)

end Go.Proofs.YtjfoagmenehapaaGreatDoor.Tree

namespace Go.Proofs.YtjfoagmenehapaaGreatDoor.Tree
open Go.RowKit Go.Shelf

/-- J speaks of blocks that are not the other side's, nor of those of X, which the other side may write. -/
def AbidX (X : Nat → Prop) (J : Nat → (Nat → Prop) → World → Prop) : Prop :=
  ∀ (k : Nat) (O O' : Nat → Prop) (A B : World), J k O A → Kept (fun b => ¬ (O b ∨ X b)) A B → (∀ b, O' b → O b ∨ A.heap.size ≤ b) → J k O' B

theorem AbidX.same {X : Nat → Prop} {J : Nat → (Nat → Prop) → World → Prop} (h : AbidX X J) {k : Nat} {O : Nat → Prop} {A B : World} (hj : J k O A) (hk : Kept (fun b => ¬ O b) A B) : J k O B :=
  h k O O A B hj (hk.mono (fun _ _ x y => x (.inl y))) (fun _ x => .inl x)

/-- The iterator's contract: it writes blocks of its own alone; a round keeps those and the blocks of S. -/
def SeqX {P : Program} (F : Fence) (n : Nat) (g : Nat) (lb : Array Value) (encs : Nat → Array Value) (N : Nat) (S X : Nat → Prop) (w : World) : Prop :=
  ∀ (l : Nat) (J Jx : Nat → (Nat → Prop) → World → Prop) (W : World), Below w.heap.size w W → AbidX X J → AbidX X Jx →
    (∀ (k : Nat) (O : Nat → Prop) (W1 : World), k < N → (∀ b, O b → NB W1 b) → J k O W1 → YieldAt F (n - 1) P l (encs k) W1 fun e W' =>
      Kept (fun b => O b ∨ S b) W1 W' ∧ ((e = .returned (.bool true) ∧ J (k + 1) O W') ∨ (e = .returned (.bool false) ∧ Jx k O W'))) →
    J 0 (fun _ => False) W →
    CallsIn F n P g (#[.func (.yield l) #[] #[]] ++ lb) W fun e W' => (∃ v, e = .returned v) ∧ ((∃ O, J N O W') ∨ (∃ k O, k < N ∧ Jx k O W'))

theorem wpIn_rangeX {F : Fence} {n : Nat} {P : Program} {g : Operand} {ps : Array Tmp} {assign body : Code} {Q : Exit → Act → World → Prop} {a : Act} {w : World}
    (hro : F.round = none) (h1 : 1 ≤ n) {gf : Nat} {lb : Array Value} (hg : a.eval g = .func (.func gf) #[] lb) (hFg : F.fn gf)
    (eg : ∀ args w, (callFunc gf args).run P w = .ok (.enter gf args) w) {encs : Nat → Array Value} {N : Nat} {S X : Nat → Prop} {w0 : World}
    (hseq : SeqX (P := P) F (n - 1) gf lb encs N S X w0) (hb0 : Below w0.heap.size w0 w) (hn0 : ∀ b, S b → b < w.heap.size) (hX : ∀ b, X b → b < w.heap.size) (hps : ∀ k, (encs k).size = ps.size)
    (I : Nat → (Nat → Prop) → World → Prop) (Ix : Code → Nat → (Nat → Prop) → World → Prop) (hI : AbidX X I) (hIx : ∀ c, AbidX X (Ix c)) (h0 : I 0 (fun _ => False) w)
    (Ax : Nat → (Nat → Prop) → Act → World → Prop)
    (hassign : ∀ (l k : Nat) (O : Nat → Prop) (W : World) (K : Act → World → Prop), k < N → (∀ b, O b → NB W b) → I k O W → (∀ a' W', Kept (fun _ => True) W W' → I k O W' → Ax k O a' W' → K a' W') →
      assign.wpIn (F.inRound l) (n - 1 - 1) P (Exit.then K (fun _ _ _ => False)) { tmps := (ps.zip (encs k)).foldl (fun t (p, v) => t.setIfInBounds p v) a.tmps, defers := [] } W)
    (hbody : ∀ (l k : Nat) (O : Nat → Prop) (a' : Act) (W1 W : World), k < N → Ax k O a' W1 → Kept (fun b => ¬ O b) W1 W → (∀ b, O b → NB W b) → I k O W → (∀ b, O b → w.heap.size ≤ b) →
      body.wpIn (F.inRound l) (n - 1 - 1) P (roundOwnS S I Ix k O W) a' W)
    (hdone : ∀ (D : Nat) (O : Nat → Prop) (W : World), w.heap.size ≤ D → O D → (∀ b, O b → w.heap.size ≤ b) → I N O W → W.heap[D]? = some (.deferred (some [])) → Q .normal { a with defers := { target := .collected D, args := #[] } :: a.defers } W)
    (hstop : ∀ (D : Nat) (c : Code) (k : Nat) (O : Nat → Prop) (W : World), w.heap.size ≤ D → O D → (∀ b, O b → w.heap.size ≤ b) → k < N → Ix c k O W → W.heap[D]? = some (.deferred (some [])) →
      c.wpIn F n P Q { a with defers := { target := .collected D, args := #[] } :: a.defers } W) :
    (Code.rangeFunc g ps assign body).wpIn F n P Q a w := by
  refine wpIn_rangeFunc ?_
  intro fn hfn
  rw [hro]
  obtain ⟨D, hD⟩ : ∃ D, w.heap.size = D := ⟨_, rfl⟩
  obtain ⟨rec, hrec⟩ : ∃ rec : LoopState → Option Code → Loop, rec = fun st pe => { state := st, pending := pe, fn, tmps := a.tmps, params := ps, assign, body, defers := D } := ⟨_, rfl⟩
  obtain ⟨W1, hW1⟩ : ∃ W1, (w.alloc (.deferred (some []))).alloc (.loop (rec .ready none)) = W1 := ⟨_, rfl⟩
  have hL1 : W1.heap[D + 1]? = some (.loop (rec .ready none)) := by
    rw [← hW1, ← hD]
    have := World.alloc_heap_new (w.alloc (.deferred (some []))) (.loop (rec .ready none))
    rwa [World.size_alloc] at this
  have hK1 : W1.heap[D]? = some (.deferred (some [])) := by
    rw [← hW1, ← hD]
    exact (Below.heap_alloc _ _ _ (by simp)).trans (World.alloc_heap_new w _)
  have hkw : Kept (fun b => ¬ False) w W1 := by
    rw [← hW1]
    exact (Kept.alloc _ _ _).trans (Kept.alloc _ _ _)
  have hI1 : I 0 (fun b => False ∨ b = D ∨ b = D + 1) W1 := hI _ _ _ _ _ h0 (hkw.mono (fun _ _ x y => x (.inl y))) (fun b x => .inr (by rcases x with x | x | x; exact x.elim; all_goals omega))
  have hb1 : Below w0.heap.size w0 W1 := by
    rw [← hW1]; exact hb0.trans ((((Below.refl _ w).alloc (Nat.le_refl _) _).alloc (by simp) _).mono hb0.size)
  refine ⟨D + 1, [{ target := .collected D, args := #[] }], W1, { target := .fn (.func gf) lb, args := #[.func (.yield (D + 1)) #[] #[]] }, W1, gf,
    #[.func (.yield (D + 1)) #[] #[]] ++ lb, W1, ?_, ?_, ?_, ?_, fun _ => h1, ?_⟩
  · rw [← hW1, hrec, ← hD]; exact run_enterLoop_outer _ _ _ _ _
  · simp only [resolve, hg]
    simp [go_sem]
  · intro f' hf'; simp [Target.leads] at hf'; subst hf'; exact hFg
  · simp [invoke, go_sem, eg]
  · refine (hseq (D + 1)
      (fun k O W => I k (fun b => O b ∨ b = D ∨ b = D + 1) W ∧ W.heap[D + 1]? = some (.loop (rec .ready none)) ∧ W.heap[D]? = some (.deferred (some [])) ∧ ∀ b, O b → D + 2 ≤ b)
      (fun k O W => ∃ c, Ix c k (fun b => O b ∨ b = D ∨ b = D + 1) W ∧ W.heap[D + 1]? = some (.loop (rec .done (some c))) ∧ W.heap[D]? = some (.deferred (some [])) ∧ ∀ b, O b → D + 2 ≤ b)
      W1 hb1 ?_ ?_ ?_ ⟨hI1, hL1, hK1, fun _ x => x.elim⟩).mono ?_
    · rintro k O O' A B ⟨hi, hl, hk, ho⟩ hK hn
      have hlt : D + 1 < A.heap.size := (Array.getElem?_eq_some_iff.1 hl).1
      refine ⟨hI _ _ _ _ _ hi (hK.mono (fun b _ x y => x (y.imp_left .inl))) (fun b x => ?_), ?_, ?_, fun b x => ?_⟩
      · rcases x with x | x
        · exact (hn b x).imp_left .inl
        · exact .inl (.inr x)
      · exact (hK.block _ hlt (fun x => x.elim (fun x => by have := ho _ x; omega) (fun x => by have := hX _ x; omega))).trans hl
      · exact (hK.block _ (by omega) (fun x => x.elim (fun x => by have := ho _ x; omega) (fun x => by have := hX _ x; omega))).trans hk
      · rcases hn b x with x | x
        · exact ho b x
        · omega
    · rintro k O O' A B ⟨c, hi, hl, hk, ho⟩ hK hn
      have hlt : D + 1 < A.heap.size := (Array.getElem?_eq_some_iff.1 hl).1
      refine ⟨c, hIx c _ _ _ _ _ hi (hK.mono (fun b _ x y => x (y.imp_left .inl))) (fun b x => ?_), ?_, ?_, fun b x => ?_⟩
      · rcases x with x | x
        · exact (hn b x).imp_left .inl
        · exact .inl (.inr x)
      · exact (hK.block _ hlt (fun x => x.elim (fun x => by have := ho _ x; omega) (fun x => by have := hX _ x; omega))).trans hl
      · exact (hK.block _ (by omega) (fun x => x.elim (fun x => by have := ho _ x; omega) (fun x => by have := hX _ x; omega))).trans hk
      · rcases hn b x with x | x
        · exact ho b x
        · omega
    · rintro k O W hlen hOb ⟨hi, hl, hk, ho⟩
      have hlt : D + 1 < W.heap.size := (Array.getElem?_eq_some_iff.1 hl).1
      have hOb' : ∀ b, (O b ∨ b = D ∨ b = D + 1) → NB W b := fun b z => by
        rcases z with z | z | z
        · exact hOb b z
        · exact ⟨_, z ▸ hk, fun c fz e => by cases e⟩
        · exact ⟨_, z ▸ hl, fun c fz e => by cases e⟩
      have hy := run_yield (P := P) (args := encs k) hl (by rw [hrec]; exact hps k)
      rw [hrec] at hy
      refine ⟨fn, _, assign, body, hy, roundIn_of_wpIn hfn (hassign _ k _ W _ hlen hOb' hi (fun a' W' hKW hi' hax => ?_))⟩
      have hl' : W'.heap[D + 1]? = some (.loop (rec .ready none)) := (hKW.block _ hlt trivial).trans hl
      have hk' : W'.heap[D]? = some (.deferred (some [])) := (hKW.block _ (by omega) trivial).trans hk
      have hlt' : D + 1 < W'.heap.size := (Array.getElem?_eq_some_iff.1 hl').1
      refine ⟨_, run_beginRound hl' (by rw [hrec]), ?_⟩
      obtain ⟨W2, hW2⟩ : ∃ W2, W'.putObj (D + 1) (.loop { rec .ready none with state := .busy }) = W2 := ⟨_, rfl⟩
      have hl2 : W2.heap[D + 1]? = some (.loop { rec .ready none with state := .busy }) := by rw [← hW2]; exact World.putObj_heap_same hlt'
      have hk2 : W2.heap[D]? = some (.deferred (some [])) := by rw [← hW2]; exact (World.putObj_heap_other (by omega)).trans hk'
      have hk12 : Kept (fun b => ¬ (O b ∨ b = D ∨ b = D + 1)) W' W2 := by rw [← hW2]; exact Kept.putObj _ _ _ _ (fun x => x (.inr (.inr rfl)))
      have hkO : Kept (fun b => O b ∨ S b) W W2 := by
        refine (hKW.mono (fun _ _ _ => trivial)).trans ?_
        rw [← hW2]
        refine Kept.putObj _ _ _ _ (fun x => ?_)
        rcases x with x | x
        · have := ho _ x; omega
        · have := hn0 _ x; omega
      have hi2 : I k (fun b => O b ∨ b = D ∨ b = D + 1) W2 := hI.same hi' hk12
      have hlow : ∀ b, (O b ∨ b = D ∨ b = D + 1) → w.heap.size ≤ b := fun b x => by
        rcases x with x | x
        · have := ho b x; omega
        · omega
      have hOb2 : ∀ b, (O b ∨ b = D ∨ b = D + 1) → NB W2 b := fun b z => by
        by_cases e : b = D + 1
        · exact ⟨_, e ▸ hl2, fun c fz e => by cases e⟩
        · have h1 := (hOb' b z).kept hKW trivial
          have h2 : Kept (fun b => b ≠ D + 1) W' W2 := by rw [← hW2]; exact Kept.putObj _ _ _ _ (fun x => x rfl)
          exact h1.kept h2 e
      rw [hW2]
      refine wpIn_mono (hbody _ k _ a' W' W2 hlen hax hk12 hOb2 hi2 hlow) ?_
      have fin : ∀ (jump : Option Code) (W3 : World), Kept (fun b => (O b ∨ b = D ∨ b = D + 1) ∨ S b) W2 W3 →
          ∃ W4, W4 = W3.putObj (D + 1) (.loop (rec (if jump.isNone then .ready else .done) jump)) ∧ (Instr.endRound (D + 1) jump).run P W3 = .ok (.bool jump.isNone) W4 ∧
          W4.heap[D + 1]? = some (.loop (rec (if jump.isNone then .ready else .done) jump)) ∧ W4.heap[D]? = some (.deferred (some [])) ∧
          Kept (fun b => O b ∨ S b) W W4 ∧ Kept (fun b => ¬ (O b ∨ b = D ∨ b = D + 1)) W3 W4 := fun jump W3 hk3 => by
        have hlt2 : D + 1 < W2.heap.size := (Array.getElem?_eq_some_iff.1 hl2).1
        have hl3 := (hk3.block (D + 1) hlt2 (.inl (.inr (.inr rfl)))).trans hl2
        have hkk3 := (hk3.block D (by omega) (.inl (.inr (.inl rfl)))).trans hk2
        have hlt3 : D + 1 < W3.heap.size := (Array.getElem?_eq_some_iff.1 hl3).1
        have hr := run_endRound (P := P) jump hl3
        refine ⟨_, rfl, ?_, World.putObj_heap_same hlt3, (World.putObj_heap_other (by omega)).trans hkk3, ?_, Kept.putObj _ _ _ _ (fun x => x (.inr (.inr rfl)))⟩
        · rw [hrec] at hr ⊢
          exact hr
        · refine (hkO.trans (hk3.mono (fun b _ x => ?_))).trans (Kept.putObj _ _ _ _ (fun x => ?_))
          · rcases x with x | x
            · exact .inl (.inl x)
            · exact .inr x
          · rcases x with x | x
            · have := ho _ x; omega
            · have := hn0 _ x; omega
      rintro e a3 W3 hp
      cases e with
      | normal =>
        obtain ⟨hk3, hi3⟩ := hp
        obtain ⟨W4, -, hr, hl4, hk4, hK4, hA4⟩ := fin none W3 hk3
        exact ⟨_, W4, hr, hK4, .inl ⟨rfl, hI.same hi3 hA4, hl4, hk4, ho⟩⟩
      | ret =>
        obtain ⟨hk3, hi3⟩ := hp
        obtain ⟨W4, -, hr, hl4, hk4, hK4, hA4⟩ := fin (some .ret) W3 hk3
        exact ⟨_, W4, hr, hK4, .inr ⟨rfl, .ret, (hIx _).same hi3 hA4, hl4, hk4, ho⟩⟩
      | exit id =>
        obtain ⟨hk3, hi3⟩ := hp
        obtain ⟨W4, -, hr, hl4, hk4, hK4, hA4⟩ := fin (some (.exit id)) W3 hk3
        exact ⟨_, W4, hr, hK4, .inr ⟨rfl, .exit id, (hIx _).same hi3 hA4, hl4, hk4, ho⟩⟩
      | goto t =>
        obtain ⟨hk3, hi3⟩ := hp
        obtain ⟨W4, -, hr, hl4, hk4, hK4, hA4⟩ := fin (some (.goto t)) W3 hk3
        exact ⟨_, W4, hr, hK4, .inr ⟨rfl, .goto t, (hIx _).same hi3 hA4, hl4, hk4, ho⟩⟩
      | panic ch => exact hp.elim
      | outgrown => exact hp.elim
    · have hlow : ∀ O : Nat → Prop, (∀ b, O b → D + 2 ≤ b) → ∀ b, (O b ∨ b = D ∨ b = D + 1) → w.heap.size ≤ b := fun O ho b x => by
        rcases x with x | x
        · have := ho b x; omega
        · omega
      rintro e W2 ⟨⟨v, rfl⟩, (⟨O, hi, hl, hk, ho⟩ | ⟨k, O, hk0, c, hi, hl, hk, ho⟩)⟩
      · exact ⟨none, _, by have := run_endLoop (P := P) hl (by rw [hrec]; simp); rw [hrec] at this; exact this,
          hdone D (fun b => O b ∨ b = D ∨ b = D + 1) _ (by omega) (.inr (.inl rfl)) (hlow O ho) (hI.same hi (Kept.putObj _ _ _ _ (fun x => x (.inr (.inr rfl))))) ((World.putObj_heap_other (by omega)).trans hk)⟩
      · exact ⟨some c, _, by have := run_endLoop (P := P) hl (by rw [hrec]; simp); rw [hrec] at this; exact this,
          hstop D c k (fun b => O b ∨ b = D ∨ b = D + 1) _ (by omega) (.inr (.inl rfl)) (hlow O ho) hk0 ((hIx c).same hi (Kept.putObj _ _ _ _ (fun x => x (.inr (.inr rfl))))) ((World.putObj_heap_other (by omega)).trans hk)⟩

end Go.Proofs.YtjfoagmenehapaaGreatDoor.Tree

