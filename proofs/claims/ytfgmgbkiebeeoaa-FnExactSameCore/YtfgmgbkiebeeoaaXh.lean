import Derived.Test.YtfgmgbkiebeeoaaXg
namespace Go.Proofs.Ytfgmgbkiebeeoaa
open Go.RowKit Go.Joins

section
variable {O : Nat → Nat} {w w' : World} {B1 lo G : Nat} {KK AA : List (Nat × Nat)} {mk sk ma sa : Value} {tk ta : Nat} {LS : List (Nat × Nat)} {lv : Value} {Mn : Nat} {nv : Value} {n : Nat} {cs : List Value}

/-- Numbers that fit. -/
structure Bd (KK AA : List (Nat × Nat)) : Prop where
  nk : (KK.map Prod.fst).Nodup
  na : (AA.map Prod.fst).Nodup
  lk : KK.length ≤ 10000000
  la : AA.length ≤ 10000000
  ok : K.off KK KK.length ≤ 5000000
  oa : A.off AA AA.length ≤ 5000000

theorem PN.kid (h : PN O w B1 lo G KK AA mk sk ma sa tk ta LS lv Mn nv n cs) (hb : Bd KK AA) {a : Option Addr} {m cap : Nat} (hd : m = 0 ∨ ∃ k b : Nat, a = some ⟨b, O b, none⟩ ∧ KK[k]? = some (b, m) ∧ 0 < m) (hl : LS.length ≤ 10000000) :
    Calls Try.prog 23 #[.pointer (some ⟨G, 0, none⟩), .slice a m cap] w fun e w' => ∃ v, e = .returned v ∧ ∃ (i : Nat) (L2 : List (Nat × Nat)) (lv' : Value) (x : Nat × Nat), v = .int .i64 (i : Int) ∧ LQ w w' B1 G LS lv Mn x i L2 lv' ∧ KX O KK a m x := by
  rcases hd with rfl | ⟨k, b, rfl, h1, h2⟩
  · refine (kidList0 h.z.ln h.l0 a cap).mono ?_
    rintro e w' ⟨rfl, q⟩
    exact ⟨_, rfl, 0, [], lv, (0, 0), rfl, q, .inl ⟨rfl, rfl⟩⟩
  · refine (kidList1 h.z hb.nk h1 h2 hl hb.lk (by have := hb.ok; omega)).mono ?_
    rintro e w' ⟨i, L2, lv', rfl, q⟩
    exact ⟨_, rfl, i, L2, lv', _, rfl, q, .inr ⟨k, b, rfl, h1, h2, rfl⟩⟩

theorem PN.alt (h : PN O w B1 lo G KK AA mk sk ma sa tk ta LS lv Mn nv n cs) (hb : Bd KK AA) {a : Option Addr} {m cap : Nat} (hd : m = 0 ∨ ∃ k b : Nat, a = some ⟨b, O b, none⟩ ∧ AA[k]? = some (b, m) ∧ 0 < m) (hl : LS.length ≤ 10000000) :
    Calls Try.prog 61 #[.pointer (some ⟨G, 0, none⟩), .slice a m cap] w fun e w' => ∃ v, e = .returned v ∧ ∃ (i : Nat) (L2 : List (Nat × Nat)) (lv' : Value) (x : Nat × Nat), v = .int .i64 (i : Int) ∧ LQ w w' B1 G LS lv Mn x i L2 lv' ∧ AX O KK AA a m x := by
  rcases hd with rfl | ⟨k, b, rfl, h1, h2⟩
  · refine (altList0 h.z.ln h.l0 a cap).mono ?_
    rintro e w' ⟨rfl, q⟩
    exact ⟨_, rfl, 0, [], lv, (0, 0), rfl, q, .inl ⟨rfl, rfl⟩⟩
  · refine (altList1 h.z hb.na h1 h2 hl hb.la (by have := hb.oa; omega) (by have := hb.ok; omega)).mono ?_
    rintro e w' ⟨i, L2, lv', rfl, q⟩
    exact ⟨_, rfl, i, L2, lv', _, rfl, q, .inr ⟨k, b, rfl, h1, h2, rfl⟩⟩

theorem Try.info89 : (Try.prog.info? 89).map (fun i => (i.zero, i.size, i.bytes)) = some (some (.agg #[.pointer none, .int .i64 0, .int .i64 0]), 3, 24) := by kernel_rfl

/-- What addNode leaves. -/
def ANp (O : Nat → Nat) (w w' : World) (B1 lo G : Nat) (KK AA : List (Nat × Nat)) (mk sk ma sa : Value) (tk ta : Nat) (LS : List (Nat × Nat)) (lv : Value) (Mn : Nat) (nv : Value) (n : Nat) (cs : List Value) (p : Value) (ka : Option Addr) (kn : Nat) (aa : Option Addr) (an : Nat) : Prop :=
  ∃ (i j : Nat) (L2 : List (Nat × Nat)) (lv' nv' : Value) (x y : Nat × Nat), PN O w' B1 lo G KK AA mk sk ma sa tk ta (LS ++ L2) lv' Mn nv' (n + 1) (cs ++ [p, .int .i64 (i : Int), .int .i64 (j : Int)]) ∧ (LS ++ L2)[i]? = some x ∧ KX O KK ka kn x ∧ (LS ++ L2)[j]? = some y ∧ AX O KK AA aa an y ∧ L2.length ≤ 2 ∧ (∀ z ∈ L2, z = x ∨ z = y) ∧ Kept (fun c => c ≠ G ∧ c ≠ Mn ∧ lv.ownBlock ≠ some c ∧ nv.ownBlock ≠ some c) w w'

set_option maxHeartbeats 8000000 in
set_option maxRecDepth 100000 in
theorem i_node (h : PN O w B1 lo G KK AA mk sk ma sa tk ta LS lv Mn nv n cs) (hb : Bd KK AA) {b o : Nat} {ka aa : Option Addr} {kn kc an ac : Nat} (c5 : w.cell? ⟨b, o + 5, none⟩ = some (.slice ka kn kc)) (c6 : w.cell? ⟨b, o + 6, none⟩ = some (.slice aa an ac)) (hbb : FB KK AA mk sk ma sa tk ta b)
    (hk : kn = 0 ∨ ∃ k b : Nat, ka = some ⟨b, O b, none⟩ ∧ KK[k]? = some (b, kn) ∧ 0 < kn) (ha : an = 0 ∨ ∃ k b : Nat, aa = some ⟨b, O b, none⟩ ∧ AA[k]? = some (b, an) ∧ 0 < an) (hl : LS.length ≤ 9999990) (hn : n ≤ 10000000) :
    Calls Try.prog 41 #[.pointer (some ⟨G, 0, none⟩), .pointer (some ⟨b, o, none⟩)] w fun e w' => (∃ v, e = .returned v) ∧ ANp O w w' B1 lo G KK AA mk sk ma sa tk ta LS lv Mn nv n cs (.pointer (some ⟨b, o, none⟩)) ka kn aa an := by
  obtain ⟨fa, fcp, rfl⟩ := ownsRow_slice h.ow
  have hG : G < w.heap.size := block_lt_of_cell h.c8
  obtain ⟨b1, b2, b3⟩ := h.z.dj b hbb
  have b4 : (Value.slice fa n fcp).ownBlock ≠ some b := fun e => (h.dn b e).2.2.2 hbb
  have hbl : b < w.heap.size := block_lt_of_cell c5
  have hd := h.keep (Kept.drew (fun _ => True) w)
  have HK := hide (hd.kid hb (cap := kc) hk (by omega))
  have A5 : Hid (∀ W5 (i : Nat) (L5 : List (Nat × Nat)) (lv5 : Value) (x5 : Nat × Nat), LQ w.drew W5 B1 G LS lv Mn x5 i L5 lv5 → (W5.cell? ⟨b, o + 6, none⟩ = some (.slice aa an ac) ∧ W5.cell? ⟨G, 8, none⟩ = some (.slice fa n fcp)) ∧ Calls Try.prog 61 #[.pointer (some ⟨G, 0, none⟩), .slice aa an ac] W5 fun e w' => ∃ v, e = .returned v ∧ ∃ (i : Nat) (L2 : List (Nat × Nat)) (lv' : Value) (x : Nat × Nat), v = .int .i64 (i : Int) ∧ LQ W5 w' B1 G (LS ++ L5) lv5 Mn x i L2 lv' ∧ AX O KK AA aa an x) := fun W5 i L5 lv5 x5 q => by
    have p5 := hd.list q
    refine ⟨⟨(q.kept.cell (p := ⟨b, o + 6, none⟩) hbl ⟨b1, b2, b3⟩).trans c6, p5.c8⟩, p5.alt hb ha ?_⟩
    have : L5.length ≤ 1 := by rcases q.new with e | e <;> simp [e]
    rw [List.length_append]
    omega
  have A6 : Hid (∀ W5 W6 (i j : Nat) (L5 L6 : List (Nat × Nat)) (lv5 lv6 : Value) (x5 x6 : Nat × Nat), LQ w.drew W5 B1 G LS lv Mn x5 i L5 lv5 → LQ W5 W6 B1 G (LS ++ L5) lv5 Mn x6 j L6 lv6 → PN O W6 B1 lo G KK AA mk sk ma sa tk ta (LS ++ L5 ++ L6) lv6 Mn (.slice fa n fcp) n cs) := fun W5 W6 i j L5 L6 lv5 lv6 x5 x6 q5 q6 => (hd.list q5).list q6
  have FIN : Hid (∀ W5 W6 W7 (i j : Nat) (L5 L6 : List (Nat × Nat)) (lv5 lv6 nv' : Value) (x5 x6 : Nat × Nat), LQ w.drew W5 B1 G LS lv Mn x5 i L5 lv5 → KX O KK ka kn x5 → LQ W5 W6 B1 G (LS ++ L5) lv5 Mn x6 j L6 lv6 → AX O KK AA aa an x6 → PN O W7 B1 lo G KK AA mk sk ma sa tk ta (LS ++ L5 ++ L6) lv6 Mn nv' (n + 1) (cs ++ [.pointer (some ⟨b, o, none⟩), .int .i64 (i : Int), .int .i64 (j : Int)]) → Kept (fun c => c ≠ G ∧ (Value.slice fa n fcp).ownBlock ≠ some c) W6 W7 → ANp O w W7 B1 lo G KK AA mk sk ma sa tk ta LS lv Mn (.slice fa n fcp) n cs (.pointer (some ⟨b, o, none⟩)) ka kn aa an) := fun W5 W6 W7 i j L5 L6 lv5 lv6 nv' x5 x6 q5 kx q6 ax pn kk => by
    refine ⟨i, j, L5 ++ L6, lv6, nv', x5, x6, by rw [← List.append_assoc]; exact pn, ?_, kx, by rw [← List.append_assoc]; exact q6.at_, ax, ?_, fun z hz => ?_, ?_⟩
    · rw [← List.append_assoc, List.getElem?_append_left (List.getElem?_eq_some_iff.1 q5.at_).1]
      exact q5.at_
    · rw [List.length_append]
      have h1 : L5.length ≤ 1 := by rcases q5.new with e | e <;> simp [e]
      have h2 : L6.length ≤ 1 := by rcases q6.new with e | e <;> simp [e]
      omega
    · rcases List.mem_append.1 hz with e | e
      · rcases q5.new with e2 | e2
        · rw [e2] at e; cases e
        · rw [e2, List.mem_singleton] at e; exact .inl e
      · rcases q6.new with e2 | e2
        · rw [e2] at e; cases e
        · rw [e2, List.mem_singleton] at e; exact .inr e
    · have s5 := q5.kept.size
      have s6 := q6.kept.size
      have sd : w.drew.heap.size = w.heap.size := rfl
      refine ⟨kk.os.trans (q6.kept.os.trans q5.kept.os), kk.tape.trans (q6.kept.tape.trans q5.kept.tape), kk.output.trans (q6.kept.output.trans q5.kept.output), by have := kk.size; omega, fun c hc hs => ?_⟩
      have l5 : lv5.ownBlock ≠ some c := by
        rcases q5.blk with e | ⟨r, e, hr⟩
        · rw [e]; exact hs.2.2.1
        · rw [e]
          intro e3
          have e4 : r = c := Option.some.inj e3
          omega
      rw [kk.block c (by omega) ⟨hs.1, hs.2.2.2⟩, q6.kept.block c (by omega) ⟨hs.1, l5, hs.2.1⟩]
      exact q5.kept.block c hc ⟨hs.1, hs.2.2.1, hs.2.1⟩
  have e5 : w.drew.cell? ⟨b, o + 5, none⟩ = some (.slice ka kn kc) := c5
  have e6 : w.drew.cell? ⟨b, o + 6, none⟩ = some (.slice aa an ac) := c6
  have e8 : w.drew.cell? ⟨G, 8, none⟩ = some (.slice fa n fcp) := h.c8
  have h8 := h.c8
  have HN : Hid (n + 1 ≤ maxLen ∧ (n + 1) * 24 ≤ 140737488355328) := by unfold Hid maxLen; omega
  clear h hb hk ha hl hn hG b1 b2 b3 b4 hbl hd hbb
  go_enter Try.func41, Try.ntmps41
  go_upto_region 0 with fail
  go_region_law (first
    | (refine step_call (by rfl) 23 #[.pointer (some ⟨G, 0, none⟩), .slice ka kn kc] (by simp [go_sem]) _ HK.out ?_; rintro v5 W5 ⟨i5, L5, lv5, x5, rfl, q5, kx5⟩; have Q5 := hide q5; have X5 := hide kx5; obtain ⟨⟨f5, f8⟩, cc5⟩ := A5.out W5 i5 L5 lv5 x5 q5; have C5 := hide cc5; clear q5 kx5 cc5)
    | (refine step_call (by rfl) 61 #[.pointer (some ⟨G, 0, none⟩), .slice aa an ac] (by simp [go_sem]) _ C5.out ?_; rintro v6 W6 ⟨i6, L6, lv6, x6, rfl, q6, ax6⟩; have Q6 := hide q6; have X6 := hide ax6; have P6 := hide (A6.out W5 W6 i5 i6 L5 L6 lv5 lv6 x5 x6 Q5.out q6); have g8 := P6.out.c8; have PA6 := hide (P6.out.keep (Kept.alloc (fun _ => True) W6 (.cells #[.pointer (some ⟨b, o, none⟩), .int .i64 (i5 : Int), .int .i64 (i6 : Int)] 89))); have ga8 := PA6.out.c8; clear q6 ax6)
    | (refine ur_draw (by rfl) _ _ 72 89 (by rfl) Try.info89 Try.underlying72 rfl (by decide) B1 _ (.slice fa n fcp) n cs [.pointer (some ⟨b, o, none⟩), .int .i64 (i5 : Int), .int .i64 (i6 : Int)] _ 1 (by rfl) PA6.out.ow (by rfl) (heap_new _ _) PA6.out.z.ln.hv rfl (by simp [Value.oneCell']) HN.out.1 HN.out.2 ?_; intro g7 cp w7 hO7 hG7 hat7; have HE7 := hide (PA6.out.node hO7 hG7 hat7); have t1 := HE7.out.1.1; have t2 := HE7.out.1.2; clear hO7 hG7 hat7)
    | fail)
  all_goals
    go_end0
    exact ⟨⟨_, rfl⟩, FIN.out W5 W6 _ i5 i6 L5 L6 lv5 lv6 _ x5 x6 Q5.out X5.out Q6.out X6.out HE7.out.2.1 (((Kept.alloc (fun _ => True) W6 _).mono (fun _ _ _ => trivial)).trans HE7.out.2.2.1)⟩
end

end Go.Proofs.Ytfgmgbkiebeeoaa
