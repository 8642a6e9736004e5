import Derived.Test.YtmnligaelihmiaaUr
import Derived.ProofKit
import Derived.OpenShut
import Derived.ShutString
import Derived.ChangeOld
namespace Go.Proofs.Ytmnligaelihmiaa
open Go.ChangeShapes Go.WideShapes Go.ChangeAt Go.RowKit Go.Joins

/-- What the cells of a value say. -/
def Says (E : Nat → List Fld) (W : World) (fs : List Fld) (cs : List Value) : Prop := ∃ F : Fo, cs = F.vals ∧ Fit E F fs ∧ F.Subs W (fun c => c < W.heap.size)

theorem Says.cat {E : Nat → List Fld} {W : World} {fs gs : List Fld} {cs ds : List Value} (h : Says E W fs cs) (k : Says E W gs ds) : Says E W (fs ++ gs) (cs ++ ds) := by
  obtain ⟨F, rfl, h1, h2⟩ := h
  obtain ⟨G, rfl, k1, k2⟩ := k
  exact ⟨F.app G, (Fo.app_vals F G).symm, h1.app k1, h2.app k2⟩

theorem Says.one {E : Nat → List Fld} {W : World} {f : Fld} {gs : List Fld} {c : Value} {ds : List Value} (h : Says E W [f] [c]) (k : Says E W gs ds) : Says E W (f :: gs) (c :: ds) := h.cat k

theorem Says.none {E : Nat → List Fld} {W : World} : Says E W [] [] := ⟨.nil, rfl, trivial, trivial⟩

theorem says_int {E : Nat → List Fld} {H : Type} {enc : TypeId × Value → H} {P : Program} {W : World} {m : Nat} {t : TypeId} {cs : List Value} {x : DataW H × List MemPlace} (ht : P.underlying t = some (.int .i64)) (h : DataW.trod enc P W 0 (fun _ => true) true m t cs = some x) : Says E W [.i] cs := by
  obtain ⟨k, e, -, hk⟩ := DataW.trod_int ht h
  exact ⟨.v (.int .i64 k) .nil, e, ⟨hk, trivial⟩, trivial⟩

theorem says_text {E : Nat → List Fld} {H : Type} {enc : TypeId × Value → H} {P : Program} {W : World} {m : Nat} {t : TypeId} {cs : List Value} {x : DataW H × List MemPlace} (ht : P.underlying t = some .string) (h : DataW.trod enc P W 0 (fun _ => true) true m t cs = some x) : Says E W [.t] cs := by
  obtain ⟨k, e, -, hk⟩ := DataW.trod_string ht h
  exact ⟨.v (.string k) .nil, e, ⟨hk, trivial⟩, trivial⟩

theorem says_bool {E : Nat → List Fld} {H : Type} {enc : TypeId × Value → H} {P : Program} {W : World} {m : Nat} {t : TypeId} {cs : List Value} {x : DataW H × List MemPlace} (ht : P.underlying t = some .bool) (h : DataW.trod enc P W 0 (fun _ => true) true m t cs = some x) : Says E W [.b] cs := by
  obtain ⟨k, e, -⟩ := DataW.trod_bool ht h
  exact ⟨.v (.bool k) .nil, e, (show Fit E .nil [] from trivial), trivial⟩

theorem says_limb {E : Nat → List Fld} {H : Type} {enc : TypeId × Value → H} {P : Program} {W : World} {m : Nat} {t : TypeId} {cs : List Value} {x : DataW H × List MemPlace} (ht : P.underlying t = some (.int .u32)) (h : DataW.trod enc P W 0 (fun _ => true) true m t cs = some x) : Says E W [.u] cs := by
  obtain ⟨k, e, -, hk⟩ := DataW.trod_int ht h
  exact ⟨.v (.int .u32 k) .nil, e, ⟨hk, trivial⟩, trivial⟩

theorem Cel.of_cells {W : World} {b o n : Nat} {cs : List Value} (h : W.cells? 0 ⟨b, o, none⟩ n = some cs) : Cel W cs b o := fun i v hv => by
  obtain ⟨-, hl, hc⟩ := World.cells?_some h
  have hi : i < n := by rw [← hl]; exact (List.getElem?_eq_some_iff.1 hv).1
  have := hc i hi
  rw [addr_add] at this
  rw [this]
  exact hv

theorem rows_up {E : Nat → List Fld} {W : World} {fs : List Fld} {b o len : Nat} (h : ∀ i, i < len → ∃ cs, W.cells? 0 ⟨b, o + i * fs.length, none⟩ fs.length = some cs ∧ Says E W fs cs) :
    ∀ j, j ≤ len → ∃ F : Fo, Fit E F (rep fs j) ∧ Cel W F.vals b (o + (len - j) * fs.length) ∧ F.Subs W (fun c => c < W.heap.size) := by
  intro j
  induction j with
  | zero => intro _; exact ⟨.nil, trivial, Cel.nil _ _ _, trivial⟩
  | succ j ih =>
    intro hj
    obtain ⟨F, hF, hC, hS⟩ := ih (by omega)
    obtain ⟨cs, hc, G, rfl, hG, hGs⟩ := h (len - (j + 1)) (by omega)
    refine ⟨G.app F, hG.app hF, ?_, hGs.app hS⟩
    rw [Fo.app_vals]
    refine Cel.join (Cel.of_cells hc) ?_
    rw [Fo.vals_length, hG.len]
    have e : len - j = len - (j + 1) + 1 := by omega
    rw [e, Nat.add_mul, Nat.one_mul, ← Nat.add_assoc] at hC
    exact hC

theorem says_slice {E : Nat → List Fld} {H : Type} {enc : TypeId × Value → H} {P : Program} {W : World} {m k : Nat} {t e : TypeId} {cs : List Value} {x : DataW H × List MemPlace} (ht : P.underlying t = some (.slice e)) (hc : P.cellsOf e = (E k).length) (hw : 0 < (E k).length)
    (ih : ∀ m', m' < m → ∀ cs x, DataW.trod enc P W 0 (fun _ => true) true m' e cs = some x → Says E W (E k) cs) (h : DataW.trod enc P W 0 (fun _ => true) true m t cs = some x) : Says E W [.s k] cs := by
  rcases DataW.trod_slice ht h with ⟨e2, -⟩ | ⟨a, len, cap, elems, rest, n', hn', e2, -, -, hlc, hcm, hel, hE, -, -⟩
  · exact ⟨.s none 0 0 .nil .nil, e2, ⟨trivial, trivial⟩, ⟨⟨Nat.le_refl _, Nat.zero_le _, fun hl => by simp [Fo.len] at hl⟩, trivial⟩⟩
  · rw [hc] at hE
    obtain ⟨b, off, spot⟩ := a
    rcases Nat.eq_zero_or_pos len with h0 | hp
    · subst h0
      exact ⟨.s (some ⟨b, off, spot⟩) 0 cap .nil .nil, e2, ⟨trivial, trivial⟩, ⟨⟨Nat.zero_le _, hcm, fun hl => by simp [Fo.len] at hl⟩, trivial⟩⟩
    · have hel' : ∀ i, i < len → ∃ cs, W.cells? 0 ((⟨b, off, spot⟩ : Addr).add (i * (E k).length)) (E k).length = some cs ∧ Says E W (E k) cs := by
        intro i hi
        have h1 := hE i hi
        have h2 : ∃ y, elems[i]? = some y := ⟨elems[i], by simp [hel ▸ hi]⟩
        obtain ⟨y, hy⟩ := h2
        rw [hy, Option.bind_eq_some_iff] at h1
        obtain ⟨cs, hc, ht⟩ := h1
        exact ⟨cs, hc, ih n' (by omega) cs y ht⟩
      have hspot : spot = none := by
        obtain ⟨cs, hc, -⟩ := hel' 0 hp
        obtain ⟨-, hl, hcc⟩ := World.cells?_some hc
        have h1 := hcc 0 hw
        have h2 : ∃ u, cs[0]? = some u := ⟨cs[0], by simp [hl ▸ hw]⟩
        obtain ⟨u, hu⟩ := h2
        rw [hu] at h1
        simpa [Addr.add] using World.cell?_spot h1
      subst hspot
      have hel2 : ∀ i, i < len → ∃ cs, W.cells? 0 ⟨b, off + i * (E k).length, none⟩ (E k).length = some cs ∧ Says E W (E k) cs := fun i hi => by
        have := hel' i hi
        rwa [addr_add] at this
      obtain ⟨F, hF, hC, hS⟩ := rows_up hel2 len (Nat.le_refl _)
      refine ⟨.s (some ⟨b, off, none⟩) len cap F .nil, e2, ⟨hF, trivial⟩, ⟨⟨hlc, hcm, fun _ => ⟨b, off, rfl, ?_, by simpa using hC, hS⟩⟩, trivial⟩⟩
      obtain ⟨cs, hc, -⟩ := hel2 0 hp
      exact World.cells?_block hc hw

end Go.Proofs.Ytmnligaelihmiaa
