import Derived.Test.YtmnligaelihmiaaGn
namespace Go.Proofs.Ytmnligaelihmiaa
open Go.RowKit Go.Joins
variable {e : List (List Int)} {n0 m : Nat} {ea : Option Addr} {ec GB : Nat} {A : GA} {tg : Nat → Nat} {of nx left : Nat → Nat} {G : Nat → List Nat} {wv : Nat → Value} {wait : Nat → List Nat} {pl : Nat → Bool} {hv : Value} {H : List Nat} {W : World}
def mark9 (tg : Nat → Nat) (o : Option Nat) : Nat → Nat := fun c => if o = some c then 9 else tg c
/-- What waits for a group is taken from it, the group placed. -/
theorem GM.free (h : GM e n0 m ea ec GB A tg of nx left G wv wait pl hv H W) {g : Nat} (hg : g < m) {pl' : Nat → Bool} (hpl : ∀ i, i < m → pl' i = if i = g then true else pl i) :
    GM e n0 m ea ec GB A (mark9 tg (wv g).ownBlock) of nx left G (updV wv g (.slice none 0 0)) (Gr.updL wait g []) pl' hv H ((W.setCell ⟨A.WQ, g, none⟩ (.slice none 0 0)).setCell ⟨A.PB, g, none⟩ (.bool true)) ∧ (∀ c, tg c ≠ 20 + g → mark9 tg (wv g).ownBlock c = tg c) ∧ Kept (fun c => tg c ≠ 6 ∧ tg c ≠ 8) W ((W.setCell ⟨A.WQ, g, none⟩ (.slice none 0 0)).setCell ⟨A.PB, g, none⟩ (.bool true)) := by
  have ht : ∀ c, tg c ≠ 20 + g → mark9 tg (wv g).ownBlock c = tg c := fun c hc => by
    unfold mark9
    rw [if_neg]
    intro e1
    exact hc (h.wts.tgs g hg c e1)
  have k1 : Kept (fun c => tg c ≠ 6) W (W.setCell ⟨A.WQ, g, none⟩ (.slice none 0 0)) := Kept.setCell _ _ _ _ (by simp [h.tWQ])
  have k2 : Kept (fun c => tg c ≠ 8) (W.setCell ⟨A.WQ, g, none⟩ (.slice none 0 0)) ((W.setCell ⟨A.WQ, g, none⟩ (.slice none 0 0)).setCell ⟨A.PB, g, none⟩ (.bool true)) := Kept.setCell _ _ _ _ (by simp [h.tPB])
  have k : Kept (fun c => tg c ≠ 6 ∧ tg c ≠ 8) W ((W.setCell ⟨A.WQ, g, none⟩ (.slice none 0 0)).setCell ⟨A.PB, g, none⟩ (.bool true)) := (k1.mono (fun c _ h => h.1)).trans (k2.mono (fun c _ h => h.2))
  have hPW : A.WQ ≠ A.PB := fun e1 => by have h1 := h.tWQ; have h2 := h.tPB; rw [e1] at h1; omega
  refine ⟨⟨h.bx.kept k (by rw [h.tGB]; omega), h.em.kept k (fun c hc => by rw [h.t0 c hc]; omega) h.sz, Nat.le_trans h.sz k.size, h.ofs.kept k (by rw [h.tOB]; omega), h.nxs.kept k (by rw [h.tNB]; omega), ?_, ?_, ⟨fun u hu => ?_, fun u hu => ?_, fun u hu c hc => ?_⟩, (h.pls.kept k1 (by rw [h.tPB]; omega)).set true hpl, h.rd.kept k (fun c hc => by rw [h.tH c hc]; omega), fun c hc => by rw [ht c (by rw [h.t0 c hc]; omega)]; exact h.t0 c hc, by rw [ht _ (by rw [h.tGB]; omega)]; exact h.tGB, by rw [ht _ (by rw [h.tOB]; omega)]; exact h.tOB, by rw [ht _ (by rw [h.tNB]; omega)]; exact h.tNB, fun hm => by rw [ht _ (by rw [(h.tLB hm).2.1]; omega)]; exact h.tLB hm, fun hm => by rw [ht _ (by rw [(h.tPG hm).2.1]; omega)]; exact h.tPG hm, by rw [ht _ (by rw [h.tWQ]; omega)]; exact h.tWQ, by rw [ht _ (by rw [h.tPB]; omega)]; exact h.tPB, fun c hc => by rw [ht c (by rw [h.tH c hc]; omega)]; exact h.tH c hc, ⟨Nat.lt_of_lt_of_le h.lts.1 k.size, Nat.lt_of_lt_of_le h.lts.2.1 k.size, Nat.lt_of_lt_of_le h.lts.2.2.1 k.size, Nat.lt_of_lt_of_le h.lts.2.2.2 k.size⟩⟩, ht, k⟩
  · by_cases hm : 0 < m
    · exact h.lfs.kept k (by rw [(h.tLB hm).2.1]; omega)
    · exact fun i hi => by omega
  · intro x hx
    obtain ⟨gb, gc, h1, h2, h3, h4, h5⟩ := h.grp.kept k (fun c hc => by rw [hc]; omega) (fun hm => (h.tPG hm).2.1) x hx
    exact ⟨gb, gc, ⟨by rw [ht gb (by rw [h1.1]; omega)]; exact h1.1, h1.2⟩, h2, h3, h4, h5⟩
  · obtain ⟨h1, h2⟩ := h.wts.cel u hu
    refine ⟨?_, by rw [World.frozen?_setCell, World.frozen?_setCell]; exact h2⟩
    rw [World.cell?_setCell_other _ _ _ _ (fun e2 => by have := congrArg Addr.block e2; first | exact hPW this | exact hPW this.symm)]
    unfold updV
    by_cases e1 : u = g
    · subst e1
      rw [if_pos rfl]
      exact World.cell?_setCell_same _ _ _ h1
    · rw [if_neg e1, World.cell?_setCell_other _ _ _ _ (fun e2 => e1 (by simpa using (congrArg Addr.off e2).symm))]
      exact h1
  · unfold updV
    by_cases e1 : u = g
    · subst e1
      rw [if_pos rfl, Gr.updL_same]
      exact IR.nil _ _
    · rw [if_neg e1, Gr.updL_other e1]
      exact (h.wts.row u hu).kept k (fun c hc => by rw [h.wts.tgs u hu c hc]; omega)
  · unfold updV at hc
    by_cases e1 : u = g
    · rw [if_pos e1] at hc; simp [Value.ownBlock] at hc
    · rw [if_neg e1] at hc
      have := h.wts.tgs u hu c hc
      rw [ht c (by omega)]; exact this
theorem Kept.trans2 {S T : Nat → Prop} {A B C : World} (h : Kept S A B) (k : Kept T B C) (hT : ∀ c, c < A.heap.size → S c → T c) : Kept S A C :=
  ⟨k.os.trans h.os, k.tape.trans h.tape, k.output.trans h.output, Nat.le_trans h.size k.size, fun i hi hs => (k.block i (Nat.lt_of_lt_of_le hi h.size) (hT i hi hs)).trans (h.block i hi hs)⟩
/-- What stays where a group is placed. -/
def KP (tg : Nat → Nat) (c : Nat) : Prop := KS tg c ∧ tg c ≠ 8 ∧ tg c ≠ 9
structure PP (e : List (List Int)) (n0 m : Nat) (ea : Option Addr) (ec GB : Nat) (A : GA) (of : Nat → Nat) (G : Nat → List Nat) (pl : Nat → Bool) (l : List Nat) (tg : Nat → Nat) (W W' : World) (tg' : Nat → Nat) : Prop where
  ss : SS e n0 m ea ec GB A of G pl l tg' [] W'
  ag : ∀ c, c < W.heap.size → tg c < 20 → tg' c = tg c
  kp : Kept (KP tg) W W'
set_option maxHeartbeats 4000000 in
set_option maxRecDepth 100000 in
theorem i_place {st : Nat → Bool} {l H0 : List Nat} {g : Nat} (hn : e.length ≤ 1048576) (hrl : ∀ (x : Nat) (r : List Int), e[x]? = some r → r.length ≤ 1048576) (hpl : ∀ g, g < m → (pl g = true ↔ g ∈ l)) (hm : GM e n0 m ea ec GB A tg of nx left G wv wait pl hv H W) (hw : Gr.WI e of m l st nx left wait H0 []) (hx : Gr.Nx e of m (· ∈ l) g) (hp : H0.Perm (g :: H)) (hh : He.Hp H H.length) :
    Calls Try.prog 20 #[.pointer (some ⟨GB, 0, none⟩), .int .i64 g] W fun r W' => r = .returned (.tuple #[]) ∧ ∃ tg', PP e n0 m ea ec GB A of G (Gr.updB pl g) (l ++ [g]) tg W W' tg' := by
  have hg := hx.1
  obtain ⟨h1, h2, h3⟩ := hm.free hg (pl' := Gr.updB pl g) (fun _ _ => rfl)
  have hw1 := hw.place hx hp
  obtain ⟨c5, f5⟩ := hm.wts.cel g hg
  have hrow := hm.wts.row g hg
  obtain ⟨fa, fc, hfv, hf1, hf2, hf3⟩ := hrow.shape
  have htg := hm.wts.tgs g hg
  rw [hfv] at c5 hrow htg
  have hR2 := hrow.kept h3 (fun c hc => by rw [htg c hc]; omega)
  rw [hfv] at h1 h2
  have h9 : ∀ c, (Value.slice fa (wait g).length fc).ownBlock = some c → mark9 tg (Value.slice fa (wait g).length fc).ownBlock c = 9 := fun c hc => by unfold mark9; rw [if_pos hc]
  obtain ⟨n, hnn⟩ : ∃ n, n = (wait g).length := ⟨_, rfl⟩
  obtain ⟨tg2, ht2⟩ : ∃ t, t = mark9 tg (Value.slice fa (wait g).length fc).ownBlock := ⟨_, rfl⟩
  rw [← ht2] at h1 h2 h9
  have d5 := hm.bx.cel 5 _ rfl
  have d6 := hm.bx.cel 6 _ rfl
  have e6 := ((hm.bx.kept (S := fun c => c ≠ A.WQ) (Kept.setCell (fun c => c ≠ A.WQ) W ⟨A.WQ, g, none⟩ (.slice none 0 0) (by simp)) (fun e1 => by have h1 := hm.tGB; have h2 := hm.tWQ; rw [e1] at h1; omega)).cel 6 _ rfl)
  have hPW : A.WQ ≠ A.PB := fun e1 => by have h1 := hm.tWQ; have h2 := hm.tPB; rw [e1] at h1; omega
  obtain ⟨c6, f6⟩ := hm.pls g hg
  have c6' : (W.setCell ⟨A.WQ, g, none⟩ (.slice none 0 0)).cell? ⟨A.PB, g, none⟩ = some (.bool (pl g)) := by
    rw [World.cell?_setCell_other _ _ _ _ (fun e2 => by have := congrArg Addr.block e2; first | exact hPW this | exact hPW this.symm)]; exact c6
  have hgi : (g : Int) < (m : Int) := by omega
  have hnb : n ≤ e.length := by
    rw [hnn]
    have := Gr.nodup_sub (l := wait g) (m := List.range e.length) (hw.wn g hg) (fun u hu => List.mem_range.2 (hw.wl g hg u hu).1)
    simpa using this
  rw [← hnn] at c5 hR2 hf1
  have HN := hide hn
  have HRL := hide hrl
  have HPL : Hid (∀ x, x < m → (Gr.updB pl g x = true ↔ x ∈ l ++ [g])) := fun x hx2 => by
    unfold Gr.updB
    by_cases e1 : x = g
    · simp [e1]
    · rw [if_neg e1]; simp [e1]; exact hpl x hx2
  have HX := hide (And.intro h1 (And.intro hw1 hh))
  have HT2 := hide h2
  have HK := hide h3
  have HNN := hide hnn
  have HR2 := hide hR2
  have HF3 := hide hf3
  have H9 := hide h9
  have HNB : Hid (n ≤ 1048576) := Nat.le_trans hnb hn
  have HFC := hide (And.intro hf1 hf2)
  have HTG := hide htg
  have HT2D := hide ht2
  clear hn hrl hpl h1 hw1 hh h2 h3 hnn hR2 hf3 h9 hnb hm hw hx hp hf1 hf2 hrow hfv htg ht2 hPW
  go_enter Try.func20, Try.ntmps20
  go_upto_region 4 with fail
  obtain ⟨V, hV⟩ : ∃ V, V = (W.setCell ⟨A.WQ, g, none⟩ (.slice none 0 0)).setCell ⟨A.PB, g, none⟩ (.bool true) := ⟨_, rfl⟩
  rw [← hV] at HX HK HR2 ⊢
  have HV := hide hV
  have HSS : Hid (SS e n0 m ea ec GB A of G (Gr.updB pl g) (l ++ [g]) tg2 (wait g) V) := ⟨st, nx, left, _, _, hv, H, HX.out.1, HX.out.2.1, HX.out.2.2⟩
  clear hV c5 d5 d6 e6 c6 c6' f5 f6 HX HV
  go_loopw [28, 6] (fun s28 s6 wr => ∃ (i : Nat) (tgk : Nat → Nat), s28 = .int .i64 (i : Int) ∧ (∃ v, s6 = v) ∧ i ≤ n ∧ Hid (SS e n0 m ea ec GB A of G (Gr.updB pl g) (l ++ [g]) tgk ((wait g).drop i) wr) ∧ Hid (∀ c, c < V.heap.size → tgk c = tg2 c) ∧ Hid (Kept (KS tg2) V wr)) (fun s28 _ _ => n - (intOf s28).toNat)
  case atStart => exact ⟨0, tg2, rfl, ⟨_, rfl⟩, Nat.zero_le _, HSS.out, fun _ _ => rfl, Kept.refl _ _⟩
  case round =>
    obtain ⟨i, tgk, rfl, ⟨v6, rfl⟩, hi, hS1, hA1, hK1⟩ := hrel
    have HIN := hide hi
    by_cases hin : i < n
    · have hnI : (n : Int) ≤ 1048576 := by have := HNB.out; omega
      have hii : (i : Int) < (n : Int) := by omega
      have hnI : (n : Int) ≤ 1048576 := by have := HNB.out; omega
      obtain ⟨fb, hfa, -, hfl⟩ := HF3.out.resolve_left (fun e1 => by have := HNN.out; rw [e1] at this; simp at this; omega)
      subst hfa
      have hil : i < (wait g).length := by rw [← HNN.out]; exact hin
      obtain ⟨x, hx⟩ : ∃ x, x = (wait g)[i] := ⟨_, rfl⟩
      have hd : (wait g).drop i = x :: (wait g).drop (i + 1) := by rw [hx]; exact List.drop_eq_getElem_cons hil
      have c0 := HR2.out.cell i hil
      have hxg : (wait g).getD i 0 = x := by rw [hx]; simp [hil]
      rw [hxg] at c0
      unfold iv at c0
      have c1 := (hK1.out.cell (p := ⟨fb, i, none⟩) (block_lt_of_cell c0) (by have := H9.out fb rfl; unfold KS; dsimp only; omega)).trans c0
      have HS1 : Hid (SS e n0 m ea ec GB A of G (Gr.updB pl g) (l ++ [g]) tgk (x :: (wait g).drop (i + 1)) wr) := by unfold Hid; rw [← hd]; exact hS1.out
      have HC := hide (i_settle HN.out HRL.out HPL.out HS1.out)
      have HA1 := hide hA1.out
      have HK1 := hide hK1.out
      clear hx hd hxg c0 hS1 hA1 hK1 hil hfl
      go_wp2_with (go_at_call 17; refine HC.out.mono ?_; rintro r W5 ⟨rfl, tg5, h5⟩)
      go_roundw
      case rel => exact ⟨i + 1, tg5, (by have h4 := HIN.out; have h5 := HNB.out; go_num), ⟨_, rfl⟩, by have := HIN.out; omega, h5.ss, fun c hc => (h5.ag c (Nat.lt_of_lt_of_le hc HK1.out.size)).trans (HA1.out c hc), HK1.out.trans2 h5.kp (fun c hc h => by unfold KS at h ⊢; rw [HA1.out c hc]; exact h)⟩
      case measure => (have h4 := HIN.out; have h5 := HNB.out; simp [intOf]; omega)
    · have hii : ¬ (i : Int) < (n : Int) := by omega
      have hin2 : i = n := by omega
      have HS1 : Hid (SS e n0 m ea ec GB A of G (Gr.updB pl g) (l ++ [g]) tgk [] wr) := by
        have := hS1.out
        rw [hin2, HNN.out, List.drop_length] at this
        exact this
      have HA1 := hide hA1.out
      have HK1 := hide hK1.out
      clear hS1 hA1 hK1 hin2
      go_wp2_with fail
      go_end0
      refine ⟨rfl, tgk, HS1.out, fun c hc h2 => ?_, ?_⟩
      · rw [HA1.out c (Nat.lt_of_lt_of_le hc HK.out.size)]
        exact HT2.out c (by omega)
      · refine (HK.out.mono (fun c _ h => ?_)).trans2 HK1.out (fun c _ h => ?_)
        · unfold KP KS at h; omega
        · unfold KP at h
          have h1 := h.1
          unfold KS at h1 ⊢
          rw [HT2.out c (by omega)]; exact h1
end Go.Proofs.Ytmnligaelihmiaa
