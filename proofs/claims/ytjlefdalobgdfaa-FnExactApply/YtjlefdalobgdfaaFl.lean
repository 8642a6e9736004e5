import Derived.Test.YtjlefdalobgdfaaTo
namespace Go.Proofs.Ytjlefdalobgdfaa
open Go.RowKit Go.Joins

/-- A type that is well made at its top. -/
def okT (k ix : Int) (nm : ByteArray) (n : Nat) : Prop := ((k = 1 ∨ k = 2) ∧ 0 ≤ ix ∧ nm.toList = [] ∧ n = 0) ∨ (k = 3 ∧ ix = 0 ∧ nm.toList ≠ [])

/-- All of a row are well made and none is too deep. -/
def Fo.good : Fo → Nat → Prop
  | .nil, _ => True
  | .cons k ix nm _ _ ks r, d => d ≤ 200 ∧ okT k ix nm ks.len ∧ ks.good (d + 1) ∧ r.good d

theorem kept_new {W A : World} {lb : Nat} {x : Value} (h : Kept (fun b => b ≠ lb) W A) : Kept (fun b => b ≠ lb) W (A.setCell ⟨lb, 0, none⟩ x) := h.trans (Kept.setCell _ _ _ _ (by simp))

theorem Box4.kept {A B : World} {b : Nat} {x i y z : Value} {S : Nat → Prop} (h : Box4 A b x i y z) (k : Kept S A B) (hb : S b) : Box4 B b x i y z :=
  ⟨Nat.lt_of_lt_of_le h.lt k.size, (k.cell (p := ⟨b, 0, none⟩) h.lt hb).trans h.c0, (k.cell (p := ⟨b, 1, none⟩) h.lt hb).trans h.ci, (k.cell (p := ⟨b, 2, none⟩) h.lt hb).trans h.c1, (k.cell (p := ⟨b, 3, none⟩) h.lt hb).trans h.c2,
    (k.frozen (p := ⟨b, 0, none⟩) h.lt hb).trans h.f0, (k.frozen (p := ⟨b, 1, none⟩) h.lt hb).trans h.fi, (k.frozen (p := ⟨b, 2, none⟩) h.lt hb).trans h.f1, (k.frozen (p := ⟨b, 3, none⟩) h.lt hb).trans h.f2⟩

/-- What the model's look for faults tells of so many types. -/
def FltP (W W' : World) (lb : Nat) (left : Int) (g : Prop) (n : Nat) (e : Ending) : Prop :=
  Kept (fun b => b ≠ lb) W W' ∧ ((e = .returned (.bool false) ∧ g ∧ (n : Int) ≤ left ∧ W'.cell? ⟨lb, 0, none⟩ = some (.int .i64 (left - n)) ∧ W'.frozen? ⟨lb, 0, none⟩ = false) ∨
    (e = .returned (.bool true) ∧ ¬ (g ∧ (n : Int) ≤ left)))

set_option maxHeartbeats 2000000 in
set_option maxRecDepth 100000 in
theorem flt_node : ∀ (m : Nat) (ks : Fo), ks.size < m → ∀ (k ix : Int) (nm : ByteArray) (d : Nat) (left : Int) (n0 lb : Nat) (W : World) (a : Option Addr) (cap : Nat), n0 ≤ lb → lb < W.heap.size → d ≤ 201 → 0 ≤ left → left ≤ 20000 →
    ks.Sl W (fun b => b < n0) a cap → W.cell? ⟨lb, 0, none⟩ = some (.int .i64 left) → W.frozen? ⟨lb, 0, none⟩ = false →
    Calls Try.prog 44 #[nodeV k ix nm a ks.len cap, .int .i64 (d : Int), .pointer (some ⟨lb, 0, none⟩)] W fun e W' => FltP W W' lb left ((Fo.cons k ix nm a cap ks .nil).good d) (1 + ks.size) e := by
  intro m
  induction m with
  | zero => intro F hF; omega
  | succ m ih =>
    intro ks hF k ix nm d left n0 lb W a cap hn hlb hd h0 h1 hs hc hf
    unfold nodeV
    have hkA : ∀ S, Kept S W (W.alloc (.cells #[.int .i64 k, .int .i64 ix, .string nm, .slice a ks.len cap] 29)) := fun S => Kept.alloc _ _ _
    have hcA := ((hkA (fun _ => True)).cell (p := ⟨lb, 0, none⟩) hlb trivial).trans hc
    have hfA := ((hkA (fun _ => True)).frozen (p := ⟨lb, 0, none⟩) hlb trivial).trans hf
    have q := Box4.new W (.int .i64 k) (.int .i64 ix) (.string nm) (.slice a ks.len cap) 29
    have hne : ¬ W.heap.size = lb := by omega
    have hne' : ¬ lb = W.heap.size := by omega
    have hK1 : ∀ x, Kept (fun b => b ≠ lb) W ((W.setCell ⟨lb, 0, none⟩ x).alloc (.cells #[.int .i64 k, .int .i64 ix, .string nm, .slice a ks.len cap] 29)) := fun x => (Kept.setCell _ _ _ _ (by simp)).trans (Kept.alloc _ _ _)
    by_cases hl : left = 0
    · subst hl
      go_enter Try.func44, Try.ntmps44
      go_wp2_with fail
      go_ret
      exact ⟨hK1 _, .inr ⟨rfl, fun h => by omega⟩⟩
    by_cases hd2 : d = 201
    · subst hd2
      go_enter Try.func44, Try.ntmps44
      go_wp2_with fail
      go_ret
      exact ⟨hK1 _, .inr ⟨rfl, fun h => absurd h.1.1 (by omega)⟩⟩
    have hl1 : ¬ left - 1 < 0 := by omega
    have hd3 : ¬ (d : Int) > 200 := by omega
    have hend : ¬ okT k ix nm ks.len → FltP W ((W.setCell ⟨lb, 0, none⟩ (.int .i64 (left - 1))).alloc (.cells #[.int .i64 k, .int .i64 ix, .string nm, .slice a ks.len cap] 29)) lb left ((Fo.cons k ix nm a cap ks .nil).good d) (1 + ks.size) (.returned (.bool true)) :=
      fun h => ⟨hK1 _, .inr ⟨rfl, fun x => h x.1.2.1⟩⟩
    have HS : (W.setCell ⟨lb, 0, none⟩ (.int .i64 (left - 1))).cell? ⟨lb, 0, none⟩ = some (.int .i64 (left - 1)) := World.cell?_setCell_same' _ _ _ (by rw [hc]; rfl)
    have HC : ((W.setCell ⟨lb, 0, none⟩ (.int .i64 (left - 1))).alloc (.cells #[.int .i64 k, .int .i64 ix, .string nm, .slice a ks.len cap] 29)).cell? ⟨lb, 0, none⟩ = some (.int .i64 (left - 1)) :=
      ((Kept.alloc (fun _ => True) _ _).cell (p := ⟨lb, 0, none⟩) (by simpa using hlb) trivial).trans HS
    have HF : ((W.setCell ⟨lb, 0, none⟩ (.int .i64 (left - 1))).alloc (.cells #[.int .i64 k, .int .i64 ix, .string nm, .slice a ks.len cap] 29)).frozen? ⟨lb, 0, none⟩ = false :=
      ((Kept.alloc (fun _ => True) _ _).frozen (p := ⟨lb, 0, none⟩) (by simpa using hlb) trivial).trans (by rw [World.frozen?_setCell]; exact hf)
    by_cases hk12 : k = 1 ∨ k = 2
    · by_cases hix : ix < 0
      · have hno := hend (by rintro (⟨_, h, _⟩ | ⟨h, _⟩) <;> omega)
        clear HC HF HS
        rcases hk12 with rfl | rfl
        all_goals
          go_enter Try.func44, Try.ntmps44
          go_wp2_with fail
          go_ret
          exact hno
      by_cases hnm : nm.toList = []
      · by_cases hln : ks.len = 0
        · cases ks with
          | cons _ _ _ _ _ _ _ => simp [Fo.len] at hln
          | nil =>
            have hyes : ∀ k, k = 1 ∨ k = 2 → (Fo.cons k ix nm a cap .nil .nil).good d := fun k hk => ⟨by omega, .inl ⟨hk, by omega, hnm, rfl⟩, trivial, trivial⟩
            have hz : (((1 + Fo.nil.size : Nat) : Int)) = 1 := rfl
            have hz2 : Fo.nil.len = 0 := rfl
            rcases hk12 with rfl | rfl
            all_goals
              go_enter Try.func44, Try.ntmps44
              go_wp2_with fail
              go_ret
              refine ⟨hK1 _, .inl ⟨rfl, trivial, ?_, ?_, HF⟩⟩
              · rw [hz]; omega
              · rw [hz]; exact HC
        · have hno := hend (by rintro (⟨_, _, _, h⟩ | ⟨h, _⟩) <;> omega)
          have hln' : decide (0 < ks.len) = true := by simp; omega
          clear HC HF HS
          rcases hk12 with rfl | rfl
          all_goals
            go_enter Try.func44, Try.ntmps44
            go_wp2_with fail
            go_ret
            exact hno
      · have hno := hend (by rintro (⟨_, _, h, _⟩ | ⟨h, _⟩); exact hnm h; omega)
        clear HC HF HS
        rcases hk12 with rfl | rfl
        all_goals
          go_enter Try.func44, Try.ntmps44
          go_wp2_with fail
          go_ret
          exact hno
    have hk1 : ¬ k = 1 := fun h => hk12 (.inl h)
    have hk2 : ¬ k = 2 := fun h => hk12 (.inr h)
    by_cases hk3 : k = 3
    · by_cases hix : ix = 0
      · by_cases hnm : nm.toList = []
        · have hno := hend (by rintro (⟨h, _⟩ | ⟨_, _, h⟩); omega; exact h hnm)
          clear HC HF HS
          subst hk3 hix
          go_enter Try.func44, Try.ntmps44
          go_wp2_with fail
          go_ret
          exact hno
        · have hok : okT k ix nm ks.len := .inr ⟨hk3, hix, hnm⟩
          have hlen := ks.len_le
          clear hend hk1 hk2 hk12
          subst hk3 hix
          have hmx : ks.len ≤ 9223372036854775807 := by have h2 := hs.1; have h3 := hs.2.1; simp only [maxLen] at h3; omega
          have HQ : Box4 ((W.setCell ⟨lb, 0, none⟩ (.int .i64 (left - 1))).alloc (.cells #[.int .i64 3, .int .i64 0, .string nm, .slice a ks.len cap] 29)) W.heap.size (.int .i64 3) (.int .i64 0) (.string nm) (.slice a ks.len cap) := by
            have := Box4.new (W.setCell ⟨lb, 0, none⟩ (.int .i64 (left - 1))) (.int .i64 3) (.int .i64 0) (.string nm) (.slice a ks.len cap) 29
            simpa using this
          have HK := hK1 (.int .i64 (left - 1))
          clear hK1 HS hcA hfA hkA q
          have hnb : (nm.toList == []) = false := by simpa using hnm
          have HI := hide ih
          have HO := hide hok
          have HCH := hide HC
          have HFH := hide HF
          have HQH := hide HQ
          have HKH := hide HK
          clear ih hok HC HF HQ HK
          go_enter Try.func44, Try.ntmps44
          go_wp2_with fail
          have ih := HI.out
          have hok := HO.out
          have HC := HCH.out
          have HF := HFH.out
          have HQ := HQH.out
          have HK := HKH.out
          clear HI HO HCH HFH HQH HKH
          generalize ((W.setCell ⟨lb, 0, none⟩ (.int .i64 (left - 1))).alloc (.cells #[.int .i64 3, .int .i64 0, .string nm, .slice a ks.len cap] 29)) = W0 at HC HF HQ HK ⊢
          have hsW : ks.Sl W0 (fun b => b < n0) a cap := hs.kept HK (fun b x => ⟨by omega, by omega⟩)
          go_loopw [7] (fun s7 wr => ∃ (i c : Nat) (r : Fo), s7 = .int .i64 i ∧ r.len + i = ks.len ∧ c + r.size = ks.size ∧ (c : Int) ≤ left - 1 ∧ (ks.good (d + 1) ↔ r.good (d + 1)) ∧
            (0 < r.len → ∃ b o, a = some ⟨b, o, none⟩ ∧ b < n0 ∧ r.Row wr (fun b => b < n0) b (o + i * 4)) ∧ Box4 wr W.heap.size (.int .i64 3) (.int .i64 0) (.string nm) (.slice a ks.len cap) ∧
            wr.cell? ⟨lb, 0, none⟩ = some (.int .i64 (left - 1 - c)) ∧ wr.frozen? ⟨lb, 0, none⟩ = false ∧ Kept (fun b => b ≠ lb) W wr) (fun s7 _ => ks.len - (intOf s7).toNat)
          case atStart => exact ⟨0, 0, ks, rfl, rfl, by omega, by omega, Iff.rfl, hsW.2.2, HQ, by simpa using HC, HF, HK⟩
          case round =>
            obtain ⟨i, c, r, rfl, hri, hcs, hcl, hgd, hrow, q, HC, HF, HK⟩ := hrel
            have qlt := q.lt
            obtain ⟨-, d0, di, d1, d2, e0, ei, e1, e2⟩ := id q
            cases r with
            | nil =>
              simp only [Fo.len, Fo.size] at hri hcs
              go_wp2_with fail
              go_ret
              refine ⟨HK, .inl ⟨rfl, ⟨by omega, hok, hgd.2 trivial, trivial⟩, by omega, ?_, HF⟩⟩
              rw [HC]
              congr 2
              omega
            | cons k' ix' nm' ka kcap ks' r =>
              simp only [Fo.len, Fo.size] at hri hcs
              obtain ⟨b, o, rfl, hb, hk, hix, hnm', c1, ci, c2, c3, h4, h5, h6, h7⟩ := hrow (by simp [Fo.len])
              have hks : ks'.Sl wr (fun b => b < n0) ka kcap := ⟨h4, h5, h6⟩
              have hz := HK.size
              go_wp2_with fail
              refine (ih ks' (by omega) k' ix' nm' (d + 1) (left - 1 - c) n0 lb wr ka kcap hn (by omega) (by omega) (by omega) (by omega) hks HC HF).mono ?_
              rintro e w1 ⟨k1, (⟨rfl, g1, n1, c1', f1'⟩ | ⟨rfl, g1⟩)⟩
              · go_wp2_with fail
                go_roundw
                case rel =>
                  refine ⟨i + 1, c + (1 + ks'.size), r, by go_num, by omega, by omega, by omega, ?_, fun _ => ⟨b, o, rfl, hb, ?_⟩, q.kept k1 (by omega), ?_, f1', HK.trans k1⟩
                  · rw [hgd]
                    exact ⟨fun h => h.2.2.2, fun h => ⟨g1.1, g1.2.1, g1.2.2.1, h⟩⟩
                  · have e : o + (i + 1) * 4 = o + i * 4 + 4 := by omega
                    rw [e]
                    exact h7.keep (fun _ x => x) (fun p hp v hv => (k1.cell (p := p) (by have : p.block < n0 := hp; omega) (by have : p.block < n0 := hp; show p.block ≠ lb; omega)).trans hv) (fun j _ _ v hv => (k1.cell (p := ⟨b, j, none⟩) (by show b < _; omega) (by show b ≠ lb; omega)).trans hv)
                  · rw [c1']
                    congr 2
                    omega
                case measure => simp [intOf]; omega
              · go_wp2_with fail
                go_ret
                refine ⟨HK.trans k1, .inr ⟨rfl, fun h => g1 ⟨?_, by omega⟩⟩⟩
                have h2 := hgd.1 h.1.2.2.1
                exact ⟨h2.1, h2.2.1, h2.2.2.1, trivial⟩
      · have hno := hend (by rintro (⟨h, _⟩ | ⟨_, h, _⟩) <;> omega)
        clear HC HF HS
        subst hk3
        go_enter Try.func44, Try.ntmps44
        go_wp2_with fail
        go_ret
        exact hno
    · have hno := hend (by rintro (⟨h, _⟩ | ⟨h, _⟩) <;> omega)
      clear HC HF HS
      go_enter Try.func44, Try.ntmps44
      go_wp2_with fail
      go_ret
      exact hno

end Go.Proofs.Ytjlefdalobgdfaa
