import Derived.Test.YtkjbkmhmghmodaaBd
namespace Go.Proofs.Ytkjbkmhmghmodaa
open Go.RowKit Go.Joins

theorem told_sim (nm : ByteArray) (vars : Int) : ∀ (n i : Nat) {K Kx : Fo}, Fit E Kx (rep (E 3) n) → K.sim Kx → (told nm vars i K).sim (told nm vars i Kx) ∧ (names K).sim (names Kx) := by
  intro n
  induction n with
  | zero =>
    intro i K Kx hf hs
    have e := fit_nil hf
    subst e
    rw [Fo.sim_nil hs]
    exact ⟨Fo.sim.refl _, Fo.sim.refl _⟩
  | succ n ih =>
    intro i K Kx hf hs
    replace hf : Fit E Kx ([.t, .t, .i, .i, .s 2] ++ rep (E 3) n) := hf
    obtain ⟨x0, F0, rfl, -, hf⟩ := fit_t hf
    obtain ⟨x1, F1, rfl, -, hf⟩ := fit_t hf
    obtain ⟨x2, F2, rfl, -, hf⟩ := fit_i hf
    obtain ⟨x3, F3, rfl, -, hf⟩ := fit_i hf
    obtain ⟨a4, n4, c4, k4, F4, rfl, -, hf⟩ := fit_s hf
    obtain ⟨u0, rfl, s_1⟩ := Fo.sim_v hs
    obtain ⟨u1, rfl, s_2⟩ := Fo.sim_v s_1
    obtain ⟨u2, rfl, s_3⟩ := Fo.sim_v s_2
    obtain ⟨u3, rfl, s_4⟩ := Fo.sim_v s_3
    obtain ⟨d4, e4, t4, u4, rfl, r4, s_5⟩ := Fo.sim_s s_4
    obtain ⟨h1, h2⟩ := ih (i + 1) hf s_5
    exact ⟨⟨rfl, rfl, rfl, rfl, rfl, r4, h1⟩, ⟨rfl, h2⟩⟩

structure BS (M : Nat) (Lr : List Value) (V0 : World) (nc nd : Nat) (Cx Dx : Fo) (pc pd : Option Addr) (qc qd : Nat) (C D : Fo) (V : World) : Prop where
  bm : Bx V M (.slice pc nc qc :: .slice pd nd qd :: Lr)
  hp : Hp (fun c => c ≤ M) [.row 43 5 (.slice pc nc qc) nc C, .row 124 3 (.slice pd nd qd) nd D] V
  sc : C.sim Cx
  sd : D.sim Dx
  kp : Kept (fun c => c < M) V0 V

theorem BS.keep {M : Nat} {Lr : List Value} {V0 A B : World} {nc nd : Nat} {Cx Dx : Fo} {pc pd : Option Addr} {qc qd : Nat} {C D : Fo} (h : BS M Lr V0 nc nd Cx Dx pc pd qc qd C D A) (k : Kept (fun _ => True) A B) : BS M Lr V0 nc nd Cx Dx pc pd qc qd C D B :=
  ⟨h.bm.kept k trivial, h.hp.keep k, h.sc, h.sd, h.kp.trans (k.mono (fun _ _ _ => trivial))⟩

/-- A data with its constructors. -/
theorem bs_tell {M : Nat} {Lr : List Value} {V0 V : World} {nc nd : Nat} {Cx Dx : Fo} {pc pd : Option Addr} {qc qd : Nat} {C D : Fo} (h : BS M Lr V0 nc nd Cx Dx pc pd qc qd C D V) (nm : ByteArray) (vars : Int) (n b : Nat) (a : Option Addr) (cap : Nat) (K Kx : Fo) (hn : n ≤ 1000) (hnc : nc ≤ 1000) (hnd : nd ≤ 1000)
    (hKx : Fit E Kx (rep (E 3) n)) (hs : K.sim Kx) (hb : b < V.heap.size) (hKc : 0 < n → a = some ⟨b, 0, none⟩ ∧ M < b ∧ Cel V K.vals b 0) (hp : Hp (fun c => c ≤ M ∨ c = b) [.row 43 5 (.slice pc nc qc) nc C, .row 124 3 (.slice pd nd qd) nd D, .fo K] V) :
    Calls Try.prog 34 #[.pointer (some ⟨M, 0, none⟩), .string nm, .int .i64 vars, .slice a n cap] V fun e V' => ∃ pc' qc' pd' qd' C' D', e = .returned (.tuple #[]) ∧ Hid (BS M Lr V0 (nc + n) (nd + 1) (Cx.app (told nm vars 0 Kx)) (Dx.app (dat nm vars n (names Kx))) pc' pd' qc' qd' C' D' V') := by
  have hM := h.bm.lt
  refine (i_tell (fun c => c ≤ M ∨ c = b) M nm vars n a cap K C D pc pd qc qd nc nd Lr V hn hnc hnd (hs.fit hKx) (fun h0 => ?_) (.inl (Nat.le_refl _)) (fun c hc => by rcases hc with hc | hc <;> omega) h.bm hp).mono ?_
  · obtain ⟨h1, h2, h3⟩ := hKc h0
    exact ⟨b, h1, ⟨.inr rfl, by omega⟩, h3⟩
  · rintro e V' ⟨pc', qc', pd', qd', na, ncap, rfl, z1, z2, z3⟩
    obtain ⟨s1, s2⟩ := told_sim nm vars n 0 hKx hs
    exact ⟨pc', qc', pd', qd', _, _, rfl, z1, z2.mono (fun c _ hp hq => hp (.inl hq)), h.sc.app s1, h.sd.app ⟨rfl, rfl, rfl, s2, trivial⟩, h.kp.trans (z3.mono (fun c _ hc => ⟨.inl (Nat.le_of_lt hc), by omega⟩))⟩

theorem bs_tup {M : Nat} {Lr : List Value} {V0 V : World} {nc nd : Nat} {Cx Dx : Fo} {pc pd : Option Addr} {qc qd : Nat} {C D : Fo} (h : BS M Lr V0 nc nd Cx Dx pc pd qc qd C D V) (k : Nat) (hk : k ≤ 7) (hnc : nc ≤ 999) (hnd : nd ≤ 999) :
    Calls Try.prog 35 #[.pointer (some ⟨M, 0, none⟩), .int .i64 k] V fun e V' => ∃ pc' qc' pd' qd' C' D', e = .returned (.tuple #[]) ∧ Hid (BS M Lr V0 (nc + 1) (nd + 1) (Cx.app (tupC k)) (Dx.app (tupD k)) pc' pd' qc' qd' C' D' V') := by
  have hM := h.bm.lt
  refine (i_tup (fun c => c ≤ M) M k C D pc pd qc qd nc nd Lr V hk hnc hnd (Nat.le_refl _) (fun c hc => by omega) h.bm h.hp).mono ?_
  rintro e V' ⟨pc', qc', pd', qd', X, Y, rfl, z1, z2, z3, s1, s2⟩
  exact ⟨pc', qc', pd', qd', _, _, rfl, z1, z2, h.sc.app s1, h.sd.app s2, h.kp.trans (z3.mono (fun c _ hc => ⟨Nat.le_of_lt hc, by omega⟩))⟩

def sBool : ByteArray := ⟨#[66, 111, 111, 108]⟩
def sFalse : ByteArray := ⟨#[70, 97, 108, 115, 101]⟩
def sTrue : ByteArray := ⟨#[84, 114, 117, 101]⟩
def sList : ByteArray := ⟨#[91, 93]⟩
def sCons : ByteArray := ⟨#[58]⟩
def sInt : ByteArray := ⟨#[73, 110, 116]⟩
def sChar : ByteArray := ⟨#[67, 104, 97, 114]⟩
def sArrow : ByteArray := ⟨#[45, 62]⟩
def con0 (x : ByteArray) : Fo := con5 x ⟨#[]⟩ 0 0 none 0 0 .nil
def kB : Fo := (con0 sFalse).app (con0 sTrue)
def kLs (a : Option Addr) (c : Nat) : Fo := (gen1 0).app (.v (.int .i64 3) (.v (.int .i64 0) (.v (.string sList) (.s a 1 c (gen1 0) .nil))))
def kL (a b : Option Addr) (c d : Nat) : Fo := (con0 sList).app (con5 sCons ⟨#[]⟩ 0 0 a 2 c (kLs b d))
def cx1 : Fo := (told sBool 0 0 kB).app (told sList 1 0 (kL none none 0 0))
def dx1 : Fo := (((((dat sBool 0 2 (names kB)).app (dat sList 1 2 (names (kL none none 0 0)))).app (dat sInt 0 0 .nil)).app (dat sChar 0 0 .nil)).app (dat sArrow 2 0 .nil))
def ct : Nat → Fo
  | 0 => cx1
  | 1 => cx1.app (tupC 0)
  | 2 => cx1.app (tupC 0)
  | i + 3 => (ct (i + 2)).app (tupC (i + 2))
def dt : Nat → Fo
  | 0 => dx1
  | 1 => dx1.app (tupD 0)
  | 2 => dx1.app (tupD 0)
  | i + 3 => (dt (i + 2)).app (tupD (i + 2))
def ansB : Fo := .s none 11 0 (ct 8) (.s none 12 0 (dt 8) (.s none 0 0 .nil (.s none 0 0 .nil (.s none 0 0 .nil .nil))))

theorem kB_fit : Fit E kB (rep (E 3) 2) := ⟨by decide, by decide, by decide, by decide, trivial, by decide, by decide, by decide, by decide, trivial, trivial⟩
theorem kL_fit : Fit E (kL none none 0 0) (rep (E 3) 2) := ⟨by decide, by decide, by decide, by decide, trivial, by decide, by decide, by decide, by decide, ⟨by decide, by decide, by decide, trivial, by decide, by decide, by decide, ⟨by decide, by decide, by decide, trivial, trivial⟩, trivial⟩, trivial⟩
theorem kL_sim (a b : Option Addr) (c d : Nat) : (kL a b c d).sim (kL none none 0 0) := ⟨rfl, rfl, rfl, rfl, rfl, trivial, rfl, rfl, rfl, rfl, rfl, ⟨rfl, rfl, rfl, rfl, trivial, rfl, rfl, rfl, rfl, Fo.sim.refl _, trivial⟩, trivial⟩

end Go.Proofs.Ytkjbkmhmghmodaa
