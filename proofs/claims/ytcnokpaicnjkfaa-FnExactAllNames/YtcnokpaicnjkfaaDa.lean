import Derived.Test.YtcnokpaicnjkfaaCo
namespace Go.Proofs.Ytcnokpaicnjkfaa
open Go.RowKit Go.Joins

/-- A term in memory: where it lies, and its cells. -/
structure Nd where
  b : Nat
  o : Nat
  x : Fo

def Nd.ptr (d : Nd) : Value := .pointer (some ⟨d.b, d.o, none⟩)

/-- The terms of a row of kids that lies at o in block b. -/
def itK (b : Nat) : Nat → Fo → List Nd
  | o, .v k (.v nm (.v mn (.s la ln lc lk (.s na nn nc nk (.s ka kn kc kk (.s aa an ac ak r)))))) => ⟨b, o, .v k (.v nm (.v mn (.s la ln lc lk (.s na nn nc nk (.s ka kn kc kk (.s aa an ac ak .nil))))))⟩ :: itK b (o + 7) r
  | _, _ => []

/-- The bodies of a row of alternatives. -/
def itA (b : Nat) : Nat → Fo → List Nd
  | o, .v _ (.s _ _ _ _ (.v k (.v nm (.v mn (.s la ln lc lk (.s na nn nc nk (.s ka kn kc kk (.s aa an ac ak r)))))))) => ⟨b, o + 2, .v k (.v nm (.v mn (.s la ln lc lk (.s na nn nc nk (.s ka kn kc kk (.s aa an ac ak .nil))))))⟩ :: itA b (o + 9) r
  | _, _ => []

def atK (a : Option Addr) (F : Fo) : List Nd := match a with
  | some p => itK p.block p.off F
  | none => []
def atA (a : Option Addr) (F : Fo) : List Nd := match a with
  | some p => itA p.block p.off F
  | none => []

/-- The terms right below one. -/
def Nd.kids (d : Nd) : List Nd := match d.x with
  | .v _ (.v _ (.v _ (.s _ _ _ _ (.s _ _ _ _ (.s ka _ _ kk (.s aa _ _ ak _)))))) => atK ka kk ++ atA aa ak
  | _ => []

structure Nd.Ok (W : World) (S : Nat → Prop) (d : Nd) : Prop where
  fit : Fit E d.x (E 3)
  cel : Cel W d.x.vals d.b d.o
  subs : d.x.Subs W S
  at_ : S d.b

theorem Nd.Ok.kept {A B : World} {S T : Nat → Prop} {d : Nd} (h : d.Ok A S) (k : Kept T A B) (hS : ∀ b, S b → T b ∧ b < A.heap.size) : d.Ok B S :=
  ⟨h.fit, h.cel.kept k (hS _ h.at_).2 (hS _ h.at_).1, h.subs.kept k hS, h.at_⟩

theorem itK_ok {W : World} {S : Nat → Prop} {b : Nat} (hb : S b) : ∀ (n : Nat) (o : Nat) (F : Fo), Fit E F (rep (E 3) n) → Cel W F.vals b o → F.Subs W S → (itK b o F).length = n ∧ (∀ i d, (itK b o F)[i]? = some d → d.b = b ∧ d.o = o + i * 7) ∧ ∀ d ∈ itK b o F, d.Ok W S
  | 0, o, F, h, _, _ => by
    rw [fit_nil h]
    exact ⟨rfl, fun i d hd => by simp [itK] at hd, fun d hd => by simp [itK] at hd⟩
  | n + 1, o, F, h, hc, hs => by
    obtain ⟨x, q, rfl, hx, hq, hl⟩ := Fit.split (fs := E 3) (gs := rep (E 3) n) h
    rw [Fo.app_vals] at hc
    have hc1 := hc.left
    have hc2 := hc.right
    rw [Fo.vals_length, hl] at hc2
    have hs1 := hs.left
    have hs2 := hs.right
    obtain ⟨g1, g2, g3⟩ := itK_ok hb n (o + 7) q hq hc2 hs2
    have hx' := hx
    obtain ⟨k, nm, mn, la, ln, lc, lk, na, nn, nc, nk, ka, kn, kc, kk, aa, an, ac, ak, rfl, -⟩ := core_open hx
    simp only [Fo.app]
    refine ⟨by simp only [itK, List.length_cons, g1], fun i d hd => ?_, fun d hd => ?_⟩
    · simp only [itK] at hd
      cases i with
      | zero =>
        simp only [List.getElem?_cons_zero, Option.some.injEq] at hd
        subst hd
        exact ⟨rfl, by simp⟩
      | succ i =>
        simp only [List.getElem?_cons_succ] at hd
        obtain ⟨e1, e2⟩ := g2 i d hd
        exact ⟨e1, by rw [e2]; omega⟩
    · simp only [itK, List.mem_cons] at hd
      rcases hd with rfl | hd
      · exact ⟨hx', hc1, hs1, hb⟩
      · exact g3 d hd

theorem itA_ok {W : World} {S : Nat → Prop} {b : Nat} (hb : S b) : ∀ (n : Nat) (o : Nat) (F : Fo), Fit E F (rep (E 2) n) → Cel W F.vals b o → F.Subs W S → (itA b o F).length = n ∧ (∀ i d, (itA b o F)[i]? = some d → d.b = b ∧ d.o = o + i * 9 + 2) ∧ ∀ d ∈ itA b o F, d.Ok W S
  | 0, o, F, h, _, _ => by
    rw [fit_nil h]
    exact ⟨rfl, fun i d hd => by simp [itA] at hd, fun d hd => by simp [itA] at hd⟩
  | n + 1, o, F, h, hc, hs => by
    obtain ⟨x, q, rfl, hx, hq, hl⟩ := Fit.split (fs := E 2) (gs := rep (E 2) n) h
    rw [Fo.app_vals] at hc
    have hc1 := hc.left
    have hc2 := hc.right
    rw [Fo.vals_length, hl] at hc2
    have hs1 := hs.left
    have hs2 := hs.right
    obtain ⟨g1, g2, g3⟩ := itA_ok hb n (o + 9) q hq hc2 hs2
    obtain ⟨con, ca, cn, cc, ck, y, rfl, -, h1, hy⟩ := alt_open hx
    have hy' := hy
    have hcy : Cel W y.vals b (o + 2) := fun i v hv => by
      have := hc1 (i + 2) v (by simpa [Fo.vals] using hv)
      have e : o + (i + 2) = o + 2 + i := by omega
      rwa [e] at this
    have hsy := hs1.2
    obtain ⟨k, nm, mn, la, ln, lc, lk, na, nn, nc, nk, ka, kn, kc, kk, aa, an, ac, ak, rfl, -⟩ := core_open hy
    simp only [Fo.app]
    refine ⟨by simp only [itA, List.length_cons, g1], fun i d hd => ?_, fun d hd => ?_⟩
    · simp only [itA] at hd
      cases i with
      | zero =>
        simp only [List.getElem?_cons_zero, Option.some.injEq] at hd
        subst hd
        exact ⟨rfl, by simp⟩
      | succ i =>
        simp only [List.getElem?_cons_succ] at hd
        obtain ⟨e1, e2⟩ := g2 i d hd
        exact ⟨e1, by rw [e2]; omega⟩
    · simp only [itA, List.mem_cons] at hd
      rcases hd with rfl | hd
      · exact ⟨hy', hcy, hsy, hb⟩
      · exact g3 d hd

theorem atK_ok {W : World} {S : Nat → Prop} {a : Option Addr} {n c : Nat} {F : Fo} (hf : Fit E F (rep (E 3) n)) (h : Fo.Sub W S a n c F) : (atK a F).length = n ∧ (∀ i d, (atK a F)[i]? = some d → ∃ b o, a = some ⟨b, o, none⟩ ∧ d.b = b ∧ d.o = o + i * 7) ∧ ∀ d ∈ atK a F, d.Ok W S := by
  by_cases hl : 0 < F.len
  · obtain ⟨b, o, rfl, hb, hc, hs⟩ := h.2.2 hl
    obtain ⟨g1, g2, g3⟩ := itK_ok hb n o F hf hc hs
    exact ⟨g1, fun i d hd => ⟨b, o, rfl, g2 i d hd⟩, g3⟩
  · have e := Fo.len_zero hl
    subst e
    have e2 : n = 0 := by
      have := Fit.len hf
      rw [rep_len] at this
      have e3 : (E 3).length = 7 := rfl
      rw [e3] at this
      simp [Fo.len] at this
      omega
    subst e2
    cases a with
    | none => exact ⟨rfl, fun i d hd => by simp [atK] at hd, fun d hd => by simp [atK] at hd⟩
    | some p => exact ⟨rfl, fun i d hd => by simp [atK, itK] at hd, fun d hd => by simp [atK, itK] at hd⟩

theorem atA_ok {W : World} {S : Nat → Prop} {a : Option Addr} {n c : Nat} {F : Fo} (hf : Fit E F (rep (E 2) n)) (h : Fo.Sub W S a n c F) : (atA a F).length = n ∧ (∀ i d, (atA a F)[i]? = some d → ∃ b o, a = some ⟨b, o, none⟩ ∧ d.b = b ∧ d.o = o + i * 9 + 2) ∧ ∀ d ∈ atA a F, d.Ok W S := by
  by_cases hl : 0 < F.len
  · obtain ⟨b, o, rfl, hb, hc, hs⟩ := h.2.2 hl
    obtain ⟨g1, g2, g3⟩ := itA_ok hb n o F hf hc hs
    exact ⟨g1, fun i d hd => ⟨b, o, rfl, g2 i d hd⟩, g3⟩
  · have e := Fo.len_zero hl
    subst e
    have e2 : n = 0 := by
      have := Fit.len hf
      rw [rep_len] at this
      have e3 : (E 2).length = 9 := rfl
      rw [e3] at this
      simp [Fo.len] at this
      omega
    subst e2
    cases a with
    | none => exact ⟨rfl, fun i d hd => by simp [atA] at hd, fun d hd => by simp [atA] at hd⟩
    | some p => exact ⟨rfl, fun i d hd => by simp [atA, itA] at hd, fun d hd => by simp [atA, itA] at hd⟩

theorem Nd.kids_ok {W : World} {S : Nat → Prop} {d : Nd} (h : d.Ok W S) : ∀ k ∈ d.kids, k.Ok W S := by
  obtain ⟨hf, -, hs, -⟩ := h
  obtain ⟨b, o, x⟩ := d
  obtain ⟨k, nm, mn, la, ln, lc, lk, na, nn, nc, nk, ka, kn, kc, kk, aa, an, ac, ak, rfl, -, -, -, -, h5, h6⟩ := core_open hf
  obtain ⟨-, -, hs5, hs6, -⟩ := hs
  intro y hy
  rcases List.mem_append.1 hy with hy | hy
  · exact (atK_ok h5 hs5).2.2 y hy
  · exact (atA_ok h6 hs6).2.2 y hy

theorem Try.info58 : (Try.prog.info? 58).map (fun i => (i.zero, i.size, i.bytes)) = some (some (.pointer none), 1, 8) := by kernel_rfl

/-- A row of pointers of our own, behind what was there. -/
structure PW (V0 wr : World) (v : Value) (L : List Nd) : Prop where
  own : wr.ownsRow V0.heap.size 58 1 v L.length (L.map Nd.ptr)
  kp : Below V0.heap.size V0 wr

theorem PW.grow {V0 wr V w3 : World} {v : Value} {L : List Nd} {g cap : Nat} {s : Nd} (h : PW V0 wr v L) (k : Below wr.heap.size wr V) (hO : w3.ownsRow V0.heap.size 58 1 (.slice (some ⟨g, 0, none⟩) (L.length + 1) cap) (L.length + 1) (L.map Nd.ptr ++ [s.ptr])) (hG : V.grownBy w3 v.ownBlock) :
    PW V0 w3 (.slice (some ⟨g, 0, none⟩) (L.length + 1) cap) (L ++ [s]) := by
  have hlo : ∀ c, v.ownBlock = some c → V0.heap.size ≤ c := fun c hc => (World.ownsRow.lt h.own c hc).1
  refine ⟨by simpa using hO, ?_⟩
  have k1 : Kept (fun c => c < V0.heap.size) V w3 := Kept.grown hG (fun c hc hlt => by have := hlo c hc; omega)
  exact Below.kept (h.kp.trans (k.mono h.kp.size)) k1 (fun c hc => hc) (Nat.le_refl _)

/-- A row of pointers as an answer. -/
def BlP (L : List Nd) (W : World) (e : Ending) (W' : World) : Prop := ∃ a c, e = .returned (.slice a L.length c) ∧ W'.ownsRow W.heap.size 58 1 (.slice a L.length c) L.length (L.map Nd.ptr) ∧ Below W.heap.size W W'

set_option maxHeartbeats 4000000 in
set_option maxRecDepth 100000 in
/-- The program's list of what is right below a term. -/
theorem i_below (d : Nd) (W : World) (hd : d.Ok W (fun c => c < W.heap.size)) (hsz : d.x.size ≤ 16777216) :
    Calls Try.prog 56 #[d.ptr] W (BlP d.kids W) := by
  obtain ⟨b, o, x⟩ := d
  obtain ⟨hf, hc, hs, hb⟩ := hd
  obtain ⟨k, nm, mn, la, ln, lc, lk, na, nn, nc, nk, ka, kn, kc, kk, aa, an, ac, ak, rfl, -, -, -, -, h5, h6⟩ := core_open hf
  obtain ⟨-, -, hs5, hs6, -⟩ := hs
  obtain ⟨e1, e2, -⟩ := atK_ok h5 hs5
  obtain ⟨f1, f2, -⟩ := atA_ok h6 hs6
  simp only [Fo.vals] at hc
  simp only [Nd.kids, Nd.ptr]
  have HC : Hid (∀ V, Below W.heap.size W V → V.cell? ⟨b, o + 5, none⟩ = some (.slice ka kn kc) ∧ V.cell? ⟨b, o + 6, none⟩ = some (.slice aa an ac)) := fun V bV => ⟨(hc.below bV hb) 5 _ rfl, (hc.below bV hb) 6 _ rfl⟩
  obtain ⟨c5, c6⟩ := HC.out W (Below.refl _ _)
  have hkx : kn ≤ 16777216 ∧ an ≤ 16777216 := by
    have g1 := Fit.len h5
    have g2 := Fit.len h6
    rw [rep_len] at g1 g2
    have g3 : (E 3).length = 7 := rfl
    have g4 : (E 2).length = 9 := rfl
    rw [g3] at g1
    rw [g4] at g2
    have := kk.len_le
    have := ak.len_le
    simp only [Fo.size] at hsz
    omega
  obtain ⟨K, hK⟩ : ∃ K, atK ka kk = K := ⟨_, rfl⟩
  obtain ⟨A, hA⟩ : ∃ A, atA aa ak = A := ⟨_, rfl⟩
  rw [hK] at e1 e2
  rw [hA] at f1 f2
  rw [hK, hA]
  have HE1 := hide e1
  have HE2 := hide e2
  have HF1 := hide f1
  have HF2 := hide f2
  have hkx' := hkx.1
  have hax' := hkx.2
  clear hc hf hs5 hs6 h5 h6 hsz e1 e2 f1 f2 hK hA hkx hb
  go_enter Try.func56, Try.ntmps56
  go_wp2_with fail
  go_loopw [3, 11] (fun s3 s11 wr => ∃ (i n : Nat) (a : Option Addr) (c : Nat), s3 = .slice a n c ∧ s11 = .int .i64 i ∧ i ≤ kn ∧ Hid (n = (K.take i).length) ∧ Hid (PW W wr (.slice a n c) (K.take i))) (fun _ s11 _ => kn - (intOf s11).toNat)
  case atStart => exact ⟨0, 0, none, 0, rfl, rfl, Nat.zero_le _, rfl, ⟨⟨rfl, .inl ⟨rfl, rfl⟩⟩, Below.refl _ _⟩⟩
  case round =>
    obtain ⟨i, n, a, c, rfl, rfl, hin, hn, hP⟩ := hrel
    clear c5 c6
    obtain ⟨c5, c6⟩ := HC.out wr hP.out.kp
    by_cases hi : i < kn
    · have hii : (i : Int) < kn := by omega
      obtain ⟨y, hy⟩ : ∃ y, K[i]? = some y := ⟨_, List.getElem?_eq_getElem (by rw [HE1.out]; exact hi)⟩
      obtain ⟨kb, ko, rfl, hyb, hyo⟩ := HE2.out i y hy
      have HYP : Hid (y.ptr = .pointer (some ⟨kb, ko + i * 7, none⟩)) := by unfold Hid Nd.ptr; rw [hyb, hyo]
      have hnl : n = i := by rw [hn.out, List.length_take, HE1.out]; omega
      obtain ⟨V5, hV5⟩ : ∃ V, wr.alloc (.cells #[.pointer (some ⟨kb, ko + i * 7, none⟩)] 58) = V := ⟨_, rfl⟩
      have k5 : Below wr.heap.size wr V5 := by rw [← hV5]; exact below_alloc1 _ _
      have HBL : Hid (V5.heap[wr.heap.size]? = some (.cells [Value.pointer (some ⟨kb, ko + i * 7, none⟩)].toArray 58)) := by unfold Hid; rw [← hV5]; exact (MapKept.heap_alloc wr _).1
      have HOS : Hid (V5.ownsRow W.heap.size 58 1 (.slice a n c) n ((K.take i).map Nd.ptr)) := by
        have h := ownsRow_kept hP.out.own (kt (S := fun _ => True) k5) (fun _ _ => trivial)
        rw [← hn.out] at h
        exact h
      have HBZ : Hid (W.heap.size ≤ V5.heap.size) := Nat.le_trans hP.out.kp.size k5.size
      have H63 : Hid (n + 1 ≤ maxLen ∧ (n + 1) * 8 ≤ 140737488355328) := by unfold Hid maxLen; omega
      have HEND : Hid (∀ g5 q5 w5, w5.ownsRow W.heap.size 58 1 (.slice (some ⟨g5, 0, none⟩) (n + 1) q5) (n + 1) ((K.take i).map Nd.ptr ++ [.pointer (some ⟨kb, ko + i * 7, none⟩)]) → V5.grownBy w5 (Value.slice a n c).ownBlock → n + 1 = (K.take (i + 1)).length ∧ PW W w5 (.slice (some ⟨g5, 0, none⟩) (n + 1) q5) (K.take (i + 1))) := fun g5 q5 w5 hO hG => by
        have e : K.take (i + 1) = K.take i ++ [y] := by rw [List.take_add_one, hy]; rfl
        have e1 := hn.out
        rw [← HYP.out] at hO
        have h := PW.grow (g := g5) (cap := q5) (s := y) hP.out k5 (by rw [← e1]; exact hO) hG
        rw [← e1] at h
        rw [e]
        exact ⟨by rw [List.length_append, ← e1]; rfl, h⟩
      have HV5 := hide hV5
      clear hV5 k5 hy hyb hyo hnl
      go_wp2_with (at_builtin; rw [HV5.out]; refine ur_stepL rfl _ _ 110 58 rfl Try.info58 Try.underlying110 rfl (by decide) W.heap.size V5 (.slice a n c) n ((K.take i).map Nd.ptr) [.pointer (some ⟨kb, ko + i * 7, none⟩)] wr.heap.size 1 rfl rfl HBZ.out HOS.out HBL.out rfl (by simp [Value.oneCell']) H63.out.1 H63.out.2 ?_; rintro g5 q5 w5 hO5 hG5 hat5; have HE5 := hide (HEND.out g5 q5 w5 hO5 hG5); clear hO5 hG5 hat5)
      go_roundw
      case rel => exact ⟨i + 1, n + 1, _, _, rfl, by go_num, by omega, HE5.out.1, HE5.out.2⟩
      case measure => simp [intOf]; omega
    · have hik : i = kn := by omega
      have HP1 : Hid (n = K.length ∧ PW W wr (.slice a n c) K) := by
        have h1 := hn.out
        have h2 := hP.out
        rw [List.take_of_length_le (by rw [HE1.out]; omega)] at h1 h2
        exact ⟨h1, h2⟩
      have hji : ¬ (i : Int) < kn := by omega
      clear hP hn
      go_wp2_with fail
      go_loopw [3, 29] (fun s3 s29 wr => ∃ (i1 n : Nat) (a : Option Addr) (c : Nat), s3 = .slice a n c ∧ s29 = .int .i64 i1 ∧ i1 ≤ an ∧ Hid (n = (K ++ A.take i1).length) ∧ Hid (PW W wr (.slice a n c) (K ++ A.take i1))) (fun _ s29 _ => an - (intOf s29).toNat)
      case atStart => exact ⟨0, n, a, c, rfl, rfl, Nat.zero_le _, by show _ = _; rw [List.take_zero, List.append_nil]; exact HP1.out.1, by show PW _ _ _ _; rw [List.take_zero, List.append_nil]; exact HP1.out.2⟩
      case round =>
        clear c5 c6 HP1
        obtain ⟨i1, n, a, c, rfl, rfl, hin1, hn, hP⟩ := hrel
        obtain ⟨c5, c6⟩ := HC.out wr hP.out.kp
        by_cases hi1 : i1 < an
        · have hii : (i1 : Int) < an := by omega
          obtain ⟨y, hy⟩ : ∃ y, A[i1]? = some y := ⟨_, List.getElem?_eq_getElem (by rw [HF1.out]; exact hi1)⟩
          obtain ⟨kb, ko, rfl, hyb, hyo⟩ := HF2.out i1 y hy
          have HYP : Hid (y.ptr = .pointer (some ⟨kb, ko + i1 * 9 + 2, none⟩)) := by unfold Hid Nd.ptr; rw [hyb, hyo]
          have hnl : n ≤ 33554432 := by rw [hn.out, List.length_append, List.length_take, HE1.out, HF1.out]; omega
          obtain ⟨V5, hV5⟩ : ∃ V, wr.alloc (.cells #[.pointer (some ⟨kb, ko + i1 * 9 + 2, none⟩)] 58) = V := ⟨_, rfl⟩
          have k5 : Below wr.heap.size wr V5 := by rw [← hV5]; exact below_alloc1 _ _
          have HBL : Hid (V5.heap[wr.heap.size]? = some (.cells [Value.pointer (some ⟨kb, ko + i1 * 9 + 2, none⟩)].toArray 58)) := by unfold Hid; rw [← hV5]; exact (MapKept.heap_alloc wr _).1
          have HOS : Hid (V5.ownsRow W.heap.size 58 1 (.slice a n c) n ((K ++ A.take i1).map Nd.ptr)) := by
            have h := ownsRow_kept hP.out.own (kt (S := fun _ => True) k5) (fun _ _ => trivial)
            rw [← hn.out] at h
            exact h
          have HBZ : Hid (W.heap.size ≤ V5.heap.size) := Nat.le_trans hP.out.kp.size k5.size
          have H63 : Hid (n + 1 ≤ maxLen ∧ (n + 1) * 8 ≤ 140737488355328) := by unfold Hid maxLen; omega
          have HEND : Hid (∀ g5 q5 w5, w5.ownsRow W.heap.size 58 1 (.slice (some ⟨g5, 0, none⟩) (n + 1) q5) (n + 1) ((K ++ A.take i1).map Nd.ptr ++ [.pointer (some ⟨kb, ko + i1 * 9 + 2, none⟩)]) → V5.grownBy w5 (Value.slice a n c).ownBlock → n + 1 = (K ++ A.take (i1 + 1)).length ∧ PW W w5 (.slice (some ⟨g5, 0, none⟩) (n + 1) q5) (K ++ A.take (i1 + 1))) := fun g5 q5 w5 hO hG => by
            have e : K ++ A.take (i1 + 1) = K ++ A.take i1 ++ [y] := by rw [List.take_add_one, hy, List.append_assoc]; rfl
            have e1 := hn.out
            rw [← HYP.out] at hO
            have h := PW.grow (g := g5) (cap := q5) (s := y) hP.out k5 (by rw [← e1]; exact hO) hG
            rw [← e1] at h
            rw [e]
            exact ⟨by rw [List.length_append, ← e1]; rfl, h⟩
          have HV5 := hide hV5
          clear hV5 k5 hy hyb hyo hnl
          go_wp2_with (at_builtin; rw [HV5.out]; refine ur_stepL rfl _ _ 110 58 rfl Try.info58 Try.underlying110 rfl (by decide) W.heap.size V5 (.slice a n c) n ((K ++ A.take i1).map Nd.ptr) [.pointer (some ⟨kb, ko + i1 * 9 + 2, none⟩)] wr.heap.size 1 rfl rfl HBZ.out HOS.out HBL.out rfl (by simp [Value.oneCell']) H63.out.1 H63.out.2 ?_; rintro g5 q5 w5 hO5 hG5 hat5; have HE5 := hide (HEND.out g5 q5 w5 hO5 hG5); clear hO5 hG5 hat5)
          go_roundw
          case rel => exact ⟨i1 + 1, n + 1, _, _, rfl, by go_num, by omega, HE5.out.1, HE5.out.2⟩
          case measure => simp [intOf]; omega
        · have HP1 : Hid (n = (K ++ A).length ∧ PW W wr (.slice a n c) (K ++ A)) := by
            have h1 := hn.out
            have h2 := hP.out
            rw [List.take_of_length_le (by rw [HF1.out]; omega)] at h1 h2
            exact ⟨h1, h2⟩
          have hji2 : ¬ (i1 : Int) < an := by omega
          clear hP hn
          go_wp2_with fail
          go_ret
          obtain ⟨h1, h2⟩ := HP1.out
          subst h1
          exact ⟨a, c, rfl, h2.own, h2.kp⟩

end Go.Proofs.Ytcnokpaicnjkfaa
