import Derived.Test.YtjfoagmenehapaaGreatDoorQ34
namespace Go.Proofs.YtjfoagmenehapaaGreatDoor.Tree
open Go.RowKit Go.Joins

/-- One kid alone, and of a class. -/
def lastF (r : Kn → Bool) : List Kn → Bool
  | [y] => r y
  | _ => false
theorem last_eq (q r : Kn → Bool) (hd : ∀ x, q x = true → r x = false) : ∀ L : List Kn, lastF r (L.dropWhile q) = (decide (1 ≤ L.length) && ((L.take (L.length - 1)).all q && (L.drop (L.length - 1)).all r))
  | [] => rfl
  | [x] => by
    cases h : q x with
    | true => rw [List.dropWhile_cons, if_pos h]; simp [lastF, hd x h]
    | false => rw [List.dropWhile_cons, h]; simp [lastF]
  | x :: y :: T => by
    have ih := last_eq q r hd (y :: T)
    cases h : q x with
    | true =>
      rw [List.dropWhile_cons, if_pos h, ih]
      simp [h]
    | false =>
      rw [List.dropWhile_cons, h]
      simp [h, lastF]

theorem last_all (r : Kn → Bool) : ∀ L : List Kn, (decide (1 ≤ L.length) && (L.drop (L.length - 1)).all r) = (match L[L.length - 1]? with | some y => r y | none => false)
  | [] => rfl
  | x :: T => by
    have h : (x :: T).length - 1 < (x :: T).length := by simp
    rw [List.getElem?_eq_getElem h, List.drop_eq_getElem_cons h, List.drop_eq_nil_of_le (by simp)]
    simp

theorem allB_all (L : List Kn) (p : Int → Bool) : allB L p 0 L.length = L.all (fun x => p x.k) := by unfold allB; rw [List.take_length]; rfl
theorem allB_tail (x : Kn) (L : List Kn) (p : Int → Bool) : allB (x :: L) p 1 (L.length + 1) = L.all (fun x => p x.k) := by
  show (((x :: L).take (x :: L).length).drop 1).all _ = _
  rw [List.take_length]
  rfl
theorem allB_tail2 (x y : Kn) (L : List Kn) (p : Int → Bool) : allB (x :: y :: L) p 2 (L.length + 1 + 1) = L.all (fun x => p x.k) := by
  show (((x :: y :: L).take (x :: y :: L).length).drop 2).all _ = _
  rw [List.take_length]
  rfl
theorem allB_front (L : List Kn) (p : Int → Bool) (n : Nat) : allB L p 0 n = (L.take n).all (fun x => p x.k) := rfl
theorem allB_back (L : List Kn) (p : Int → Bool) (n : Nat) : allB L p n L.length = (L.drop n).all (fun x => p x.k) := by unfold allB; rw [List.take_length]

theorem shp_end {p : ByteArray} {q : Kn → Bool} (hq : cqF p = q) (hs : starP p = false) (ht : (p.toList == (trimP p).toList) = true) (L : List Kn) : shp cqF [p] L = lastF q L := by
  rw [shp_one [] hq hs ht]
  cases L with
  | nil => rfl
  | cons x T => cases T with
    | nil => show (q x && shp cqF [] []) = q x; rw [shp_nil]; simp
    | cons y U => show (q x && shp cqF [] (y :: U)) = false; rw [shp_nil]; simp

theorem eq1 (nm : ByteArray) (L : List Kn) : kidsF 1 nm L = kidsI 1 L := by rw [kidsI1]; rfl
theorem eq2 (nm : ByteArray) (L : List Kn) : kidsF 2 nm L = kidsI 2 L := by rw [kidsI2]; rfl
theorem eq3 (nm : ByteArray) (L : List Kn) : kidsF 3 nm L = kidsI 3 L := by rw [kidsI3]; rfl
theorem eq4 (nm : ByteArray) (L : List Kn) : kidsF 4 nm L = kidsI 4 L := by rw [kidsI4]; rfl
theorem eq5 (nm : ByteArray) (L : List Kn) : kidsF 5 nm L = kidsI 5 L := by rw [kidsI5]; rfl
theorem eq9 (nm : ByteArray) (L : List Kn) : kidsF 9 nm L = kidsI 9 L := by
  rw [kidsI9, kidsF9]
  match L with
  | [] => simp [shp_e]
  | [_] => simp [shp_e]
  | [_, _] => simp [shp_e]
  | [x, y, z] => simp [shp_nil, shp_e, allB]
  | _ :: _ :: _ :: _ :: _ => simp [shp_nil, shp_e]
theorem eq13 (nm : ByteArray) (L : List Kn) : kidsF 13 nm L = kidsI 13 L := by
  rw [kidsI13, kidsF13]
  match L with
  | [] => simp [shp_e]
  | [_] => simp [shp_e]
  | [x, y] => simp [shp_nil, shp_e, allB]
  | _ :: _ :: _ :: _ => simp [shp_nil, shp_e]
theorem eq15 (nm : ByteArray) (L : List Kn) : kidsF 15 nm L = kidsI 15 L := by
  rw [kidsI15, kidsF15]
  match L with
  | [] => simp [shp_e]
  | [x] => simp [shp_nil, shp_e, allB]
  | _ :: _ :: _ => simp [shp_nil, shp_e]
theorem eq16 (nm : ByteArray) (L : List Kn) : kidsF 16 nm L = kidsI 16 L := by
  rw [kidsI16, kidsF16]
  match L with
  | [] => simp [shp_e]
  | [x] => simp [shp_nil, shp_e, allB]
  | _ :: _ :: _ => simp [shp_nil, shp_e]
theorem eq17 (nm : ByteArray) (L : List Kn) : kidsF 17 nm L = kidsI 17 L := by
  rw [kidsI17, kidsF17]
  match L with
  | [] => simp [shp_e]
  | [x] => simp [shp_nil, shp_e, allB]
  | _ :: _ :: _ => simp [shp_nil, shp_e]
theorem eq19 (nm : ByteArray) (L : List Kn) : kidsF 19 nm L = kidsI 19 L := by
  rw [kidsI19, kidsF19]
  match L with
  | [] => simp [shp_p]
  | [_] => simp [shp_p, shp_rhs]
  | [x, y] => simp [shp_nil, shp_p, shp_rhs, allB, kd]
  | _ :: _ :: _ :: _ => simp [shp_nil, shp_p, shp_rhs]
theorem eq21 (nm : ByteArray) (L : List Kn) : kidsF 21 nm L = kidsI 21 L := by
  rw [kidsI21, kidsF21]
  match L with
  | [] => simp [shp_e]
  | [_] => simp [shp_e]
  | [x, y] => simp [shp_nil, shp_e, allB]
  | _ :: _ :: _ :: _ => simp [shp_nil, shp_e]
theorem eq22 (nm : ByteArray) (L : List Kn) : kidsF 22 nm L = kidsI 22 L := by
  rw [kidsI22, kidsF22]
  match L with
  | [] => simp [shp_p]
  | [_] => simp [shp_p, shp_e]
  | [x, y] => simp [shp_nil, shp_p, shp_e, allB]
  | _ :: _ :: _ :: _ => simp [shp_nil, shp_p, shp_e]
theorem eq23 (nm : ByteArray) (L : List Kn) : kidsF 23 nm L = kidsI 23 L := by
  rw [kidsI23, kidsF23]
  match L with
  | [] => simp [shp_e]
  | [x] => simp [shp_nil, shp_e, allB]
  | _ :: _ :: _ => simp [shp_nil, shp_e]
theorem eq30 (nm : ByteArray) (L : List Kn) : kidsF 30 nm L = kidsI 30 L := by rw [kidsI30]; rfl
theorem eq31 (nm : ByteArray) (L : List Kn) : kidsF 31 nm L = kidsI 31 L := by rw [kidsI31]; rfl
theorem eq33 (nm : ByteArray) (L : List Kn) : kidsF 33 nm L = kidsI 33 L := by rw [kidsI33]; rfl
theorem eq34 (nm : ByteArray) (L : List Kn) : kidsF 34 nm L = kidsI 34 L := by rw [kidsI34]; rfl
theorem eq35 (nm : ByteArray) (L : List Kn) : kidsF 35 nm L = kidsI 35 L := by rw [kidsI35]; rfl
theorem eq38 (nm : ByteArray) (L : List Kn) : kidsF 38 nm L = kidsI 38 L := by
  rw [kidsI38, kidsF38]
  match L with
  | [] => simp [shp_p]
  | [x] => simp [shp_nil, shp_p, allB]
  | _ :: _ :: _ => simp [shp_nil, shp_p]
theorem eq39 (nm : ByteArray) (L : List Kn) : kidsF 39 nm L = kidsI 39 L := by
  rw [kidsI39, kidsF39]
  match L with
  | [] => simp [shp_p]
  | [x] => simp [shp_nil, shp_p, allB]
  | _ :: _ :: _ => simp [shp_nil, shp_p]
theorem eq40 (nm : ByteArray) (L : List Kn) : kidsF 40 nm L = kidsI 40 L := by
  rw [kidsI40, kidsF40]
  match L with
  | [] => simp [shp_p]
  | [x] => simp [shp_nil, shp_p, allB]
  | _ :: _ :: _ => simp [shp_nil, shp_p]
theorem eq50 (nm : ByteArray) (L : List Kn) : kidsF 50 nm L = kidsI 50 L := by rw [kidsI50]; rfl
theorem eq51 (nm : ByteArray) (L : List Kn) : kidsF 51 nm L = kidsI 51 L := by rw [kidsI51]; rfl
theorem eq53 (nm : ByteArray) (L : List Kn) : kidsF 53 nm L = kidsI 53 L := by
  rw [kidsI53, kidsF53]
  match L with
  | [] => simp [shp_t]
  | [_] => simp [shp_t]
  | [x, y] => simp [shp_nil, shp_t, allB]
  | _ :: _ :: _ :: _ => simp [shp_nil, shp_t]
theorem eq55 (nm : ByteArray) (L : List Kn) : kidsF 55 nm L = kidsI 55 L := by
  rw [kidsI55, kidsF55]
  match L with
  | [] => simp [shp_t]
  | [x] => simp [shp_nil, shp_t, allB]
  | _ :: _ :: _ => simp [shp_nil, shp_t]
theorem eq60 (nm : ByteArray) (L : List Kn) : kidsF 60 nm L = kidsI 60 L := by
  rw [kidsI60, kidsF60]
  match L with
  | [] => simp [shp_names]
  | [_] => simp [shp_names, shp_context]
  | [_, _] => simp [shp_names, shp_context, shp_t]
  | [x, y, z] => simp [shp_nil, shp_names, shp_context, shp_t, allB, kd, kn]
  | _ :: _ :: _ :: _ :: _ => simp [shp_nil, shp_names, shp_context, shp_t]
theorem eq62 (nm : ByteArray) (L : List Kn) : kidsF 62 nm L = kidsI 62 L := by
  rw [kidsI62, kidsF62]
  match L with
  | [] => simp [shp_level]
  | [_] => simp [shp_level, shp_names]
  | [x, y] => simp [shp_nil, shp_level, shp_names, kd, kn, Bool.and_assoc]
  | _ :: _ :: _ :: _ => simp [shp_nil, shp_level, shp_names]
theorem eq71 (nm : ByteArray) (L : List Kn) : kidsF 71 nm L = kidsI 71 L := by rw [kidsI71]; rfl

end Go.Proofs.YtjfoagmenehapaaGreatDoor.Tree

namespace Go.Proofs.YtjfoagmenehapaaGreatDoor.Tree
open Go.RowKit Go.Joins

theorem eq6 (nm : ByteArray) (L : List Kn) : kidsF 6 nm L = kidsI 6 L := by
  rw [kidsI6, kidsF6]
  rw [allB_all]
  match L with
  | [] => rfl
  | [x] => simp [shp_e, shp_eP]
  | x :: y :: T => simp [shp_e, shp_eP, shp_nil, dw_all]
theorem eq52 (nm : ByteArray) (L : List Kn) : kidsF 52 nm L = kidsI 52 L := by
  rw [kidsI52, kidsF52]
  rw [allB_all]
  match L with
  | [] => rfl
  | [x] => simp [shp_t, shp_tP]
  | x :: y :: T => simp [shp_t, shp_tP, shp_nil, dw_all]
theorem eq11 (nm : ByteArray) (L : List Kn) : kidsF 11 nm L = kidsI 11 L := by
  rw [kidsI11, kidsF11]
  rw [allB_all]
  match L with
  | [] => rfl
  | [x] => simp [shp_e, shp_eP, shp_nil]
  | x :: y :: T => simp [shp_e, shp_eP, shp_nil, dw_all]
theorem eq36 (nm : ByteArray) (L : List Kn) : kidsF 36 nm L = kidsI 36 L := by
  rw [kidsI36, kidsF36]
  rw [allB_all]
  match L with
  | [] => rfl
  | [x] => simp [shp_p, shp_pP, shp_nil]
  | x :: y :: T => simp [shp_p, shp_pP, shp_nil, dw_all]
theorem eq54 (nm : ByteArray) (L : List Kn) : kidsF 54 nm L = kidsI 54 L := by
  rw [kidsI54, kidsF54]
  rw [allB_all]
  match L with
  | [] => rfl
  | [x] => simp [shp_t, shp_tP, shp_nil]
  | x :: y :: T => simp [shp_t, shp_tP, shp_nil, dw_all]
theorem eq12 (nm : ByteArray) (L : List Kn) : kidsF 12 nm L = kidsI 12 L := by
  rw [kidsI12, kidsF12]
  rw [allB_all, shp_eS, shp_nil, dw_all]
theorem eq32 (nm : ByteArray) (L : List Kn) : kidsF 32 nm L = kidsI 32 L := by
  rw [kidsI32, kidsF32]
  rw [allB_all, shp_pS, shp_nil, dw_all]
theorem eq37 (nm : ByteArray) (L : List Kn) : kidsF 37 nm L = kidsI 37 L := by
  rw [kidsI37, kidsF37]
  rw [allB_all, shp_pS, shp_nil, dw_all]
theorem eq64 (nm : ByteArray) (L : List Kn) : kidsF 64 nm L = kidsI 64 L := by
  rw [kidsI64, kidsF64]
  rw [allB_all, shp_tS, shp_nil, dw_all]
theorem eq69 (nm : ByteArray) (L : List Kn) : kidsF 69 nm L = kidsI 69 L := by
  rw [kidsI69, kidsF69]
  rw [shp_boundS, shp_nil, dw_all]
theorem eq7 (nm : ByteArray) (L : List Kn) : kidsF 7 nm L = kidsI 7 L := by
  rw [kidsI7, kidsF7]
  rw [shp_pP, allB_front, allB_back]
  cases L with
  | nil => rfl
  | cons x T =>
    show _ = (pK x.k && shp cqF _ _)
    rw [shp_end cq_e sq_e tq_e, last_eq _ _ (fun y h => ?_)]
    · cases T with
      | nil => simp
      | cons y U => simp [Bool.and_assoc]
    · simp only [pK, eK, Bool.and_eq_true, decide_eq_true_eq, Bool.and_eq_false_iff, decide_eq_false_iff_not] at h ⊢
      omega
theorem eq8 (nm : ByteArray) (L : List Kn) : kidsF 8 nm L = kidsI 8 L := by
  rw [kidsI8, kidsF8]
  rw [shp_dS, shp_end cq_e sq_e tq_e, last_eq _ _ (fun y h => ?_), allB_front, allB_back]
  simp only [dK, eK, Bool.and_eq_true, decide_eq_true_eq, Bool.and_eq_false_iff, decide_eq_false_iff_not] at h ⊢
  omega
theorem kd_last (L : List Kn) (v : Int) (hv : v ≠ 0) : (decide (1 ≤ L.length) && (L.drop (L.length - 1)).all (fun x => x.k == v)) = (kd L (L.length - 1) == v) := by
  rw [last_all]
  unfold kd
  cases L[L.length - 1]? with
  | none => exact (beq_eq_false_iff_ne.2 (Ne.symm hv)).symm
  | some y => rfl
theorem pl_last (L : List Kn) : (decide (1 ≤ L.length) && (L.drop (L.length - 1)).all (fun x => plainB x.k x.nm)) = plainB (kd L (L.length - 1)) (kn L (L.length - 1)) := by
  rw [last_all]
  unfold kd kn
  cases L[L.length - 1]? <;> rfl
theorem eq61 (nm : ByteArray) (L : List Kn) : kidsF 61 nm L = kidsI 61 L := by
  rw [kidsI61, kidsF61]
  rw [shp_pS, shp_end cq_rhs sq_rhs tq_rhs, last_eq _ _ (fun y h => ?_), allB_front, ← kd_last L 20 (by decide)]
  · cases decide (1 ≤ L.length) <;> simp
  · simp only [pK, Bool.and_eq_true, decide_eq_true_eq, beq_eq_false_iff_ne] at h ⊢
    omega
theorem eq10 (nm : ByteArray) (L : List Kn) : kidsF 10 nm L = kidsI 10 L := by
  rw [kidsI10, kidsF10]
  match L with
  | [] => rfl
  | [x] => simp [shp_e, shp_altP]
  | x :: y :: T => simp [shp_e, shp_altP, shp_nil, dw_all, allB]
theorem eq14 (nm : ByteArray) (L : List Kn) : kidsF 14 nm L = kidsI 14 L := by
  rw [kidsI14, kidsF14]
  match L with
  | [] => rfl
  | [x] => simp [shp_e, shp_qualP]
  | x :: y :: T => simp [shp_e, shp_qualP, shp_nil, dw_all, allB]
theorem eq20 (nm : ByteArray) (L : List Kn) : kidsF 20 nm L = kidsI 20 L := by
  rw [kidsI20, kidsF20]
  match L with
  | [] => rfl
  | x :: T =>
    rw [shp_e, shp_guardP]
    show _ = ((eK x.k && shp cqF _ T) || (x.k == 21 && shp cqF _ _))
    rw [shp_dS, shp_dS, shp_nil, shp_nil, dw_all, dw_all]
    show (if x.k = 21 then (T.dropWhile (fun y => y.k == 21)).all (fun y => dK y.k) else eK x.k && T.all (fun y => dK y.k)) = _
    by_cases h : x.k = 21
    · rw [if_pos h, h]; simp [eK]
    · rw [if_neg h, beq_eq_false_iff_ne.2 h]; simp
theorem eq63 (nm : ByteArray) (L : List Kn) : kidsF 63 nm L = kidsI 63 L := by
  rw [kidsI63, kidsF63]
  match L with
  | [] => rfl
  | [x] => simp [shp_names, shp_constrP]
  | [x, y] => simp [shp_names, shp_constrP]
  | x :: y :: z :: U =>
    have hl := last_eq (fun z => z.k == 64) (fun z => plainB z.k z.nm) (fun z h => by rw [beq_iff_eq] at h; show plainB z.k z.nm = false; unfold plainB; rw [h]; rfl) (z :: U)
    have hp := pl_last (z :: U)
    have e1 : kd (x :: y :: z :: U) ((x :: y :: z :: U).length - 1) = kd (z :: U) ((z :: U).length - 1) := rfl
    have e2 : kn (x :: y :: z :: U) ((x :: y :: z :: U).length - 1) = kn (z :: U) ((z :: U).length - 1) := rfl
    have e3 : allB (x :: y :: z :: U) (fun y => y == 64) 1 ((x :: y :: z :: U).length - 1) = (y.k == 64 && ((z :: U).take ((z :: U).length - 1)).all (fun x => x.k == 64)) := by simp [allB]
    have e4 : kd (x :: y :: z :: U) 0 = x.k := rfl
    have e5 : kn (x :: y :: z :: U) 0 = x.nm := rfl
    rw [e1, e2, e3, e4, e5, ← hp, shp_names]
    show _ = (plainB x.k x.nm && shp cqF _ (y :: z :: U))
    rw [shp_constrP]
    show _ = (plainB x.k x.nm && (y.k == 64 && shp cqF _ _))
    rw [shp_end cq_names sq_names tq_names, hl]
    simp [Bool.and_assoc]
theorem eq65 (nm : ByteArray) (L : List Kn) : kidsF 65 nm L = kidsI 65 L := by
  rw [kidsI65, kidsF65]
  match L with
  | [] => rfl
  | [x] => simp [shp_context, shp_tvar]
  | x :: y :: T => simp [shp_context, shp_tvar, shp_sigS, shp_nil, dw_all, allB, kd]
theorem eq66 (nm : ByteArray) (L : List Kn) : kidsF 66 nm L = kidsI 66 L := by
  rw [kidsI66, kidsF66]
  match L with
  | [] => rfl
  | [x] => simp [shp_context, shp_t]
  | x :: y :: T => simp [shp_context, shp_t, shp_clauseS, shp_nil, dw_all, allB, kd]
theorem eq67 (nm : ByteArray) (L : List Kn) : kidsF 67 nm L = kidsI 67 L := by
  rw [kidsI67, kidsF67]
  match L with
  | [] => rfl
  | [x] => simp [shp_names, shp_nil, kd, kn]
  | x :: y :: T => simp [shp_names, shp_nil]
theorem eq68 (nm : ByteArray) (L : List Kn) : kidsF 68 nm L = kidsI 68 L := by
  rw [kidsI68, kidsF68]
  match L with
  | [] => rfl
  | x :: T => rw [shp_exports]; show _ = (x.k == 70 && shp cqF _ T); rw [shp_importS, shp_topS, shp_nil, dw_all]; rfl
theorem eq70 (nm : ByteArray) (L : List Kn) : (nmF 70 nm true && kidsF 70 nm L) = (nmF 70 nm (L.length == 0) && kidsI 70 L) := by
  rw [kidsI70, kidsF70, nmF70, nmF70, allB_all, shp_itemS, shp_nil, dw_all]
  cases L.length == 0 <;> cases nm.toList.isEmpty <;> cases nm.toList == [97, 108, 108] <;> simp

end Go.Proofs.YtjfoagmenehapaaGreatDoor.Tree

namespace Go.Proofs.YtjfoagmenehapaaGreatDoor.Tree
open Go.RowKit Go.Joins

theorem nmF_b (k : Int) (t : ByteArray) (b b' : Bool) (h : k ≠ 70) : nmF k t b = nmF k t b' := by
  by_cases n1 : k = 1
  · subst n1; rfl
  by_cases n2 : k = 2
  · subst n2; rfl
  by_cases n3 : k = 3
  · subst n3; rfl
  by_cases n4 : k = 4
  · subst n4; rfl
  by_cases n5 : k = 5
  · subst n5; rfl
  by_cases n15 : k = 15
  · subst n15; rfl
  by_cases n16 : k = 16
  · subst n16; rfl
  by_cases n30 : k = 30
  · subst n30; rfl
  by_cases n32 : k = 32
  · subst n32; rfl
  by_cases n33 : k = 33
  · subst n33; rfl
  by_cases n34 : k = 34
  · subst n34; rfl
  by_cases n35 : k = 35
  · subst n35; rfl
  by_cases n38 : k = 38
  · subst n38; rfl
  by_cases n50 : k = 50
  · subst n50; rfl
  by_cases n51 : k = 51
  · subst n51; rfl
  by_cases n61 : k = 61
  · subst n61; rfl
  by_cases n62 : k = 62
  · subst n62; rfl
  by_cases n63 : k = 63
  · subst n63; rfl
  by_cases n64 : k = 64
  · subst n64; rfl
  by_cases n65 : k = 65
  · subst n65; rfl
  by_cases n66 : k = 66
  · subst n66; rfl
  by_cases n67 : k = 67
  · subst n67; rfl
  by_cases n68 : k = 68
  · subst n68; rfl
  by_cases n71 : k = 71
  · subst n71; rfl
  rw [nmF_else k t b n1 n2 n3 n4 n5 n15 n16 n30 n32 n33 n34 n35 n38 n50 n51 n61 n62 n63 n64 n65 n66 n67 n68 h n71, nmF_else k t b' n1 n2 n3 n4 n5 n15 n16 n30 n32 n33 n34 n35 n38 n50 n51 n61 n62 n63 n64 n65 n66 n67 n68 h n71]

theorem len_of_ok {x : Kn} (h : okI x = true) (hk : x.k = 1 ∨ x.k = 2) : x.ks.len = 0 := by
  have h2 := ((Bool.and_eq_true _ _).mp h).2
  rcases hk with e | e <;> rw [e] at h2
  · rw [kidsI1, shp_nil, List.isEmpty_iff] at h2; rw [← Fo.list_length, h2]; rfl
  · rw [kidsI2, shp_nil, List.isEmpty_iff] at h2; rw [← Fo.list_length, h2]; rfl
theorem cn_of_ok {x : Kn} (h : okI x = true) (hk : x.k = 32) : cn x.nm = true := by
  have h2 := ((Bool.and_eq_true _ _).mp h).1
  rw [hk] at h2
  exact h2

theorem tF_e : ∀ (L : List Kn) (b : Bool), (∀ x, x ∈ L → okI x = true) → tF false b L = altB (fun x => eK x.k) (fun x => (x.k == 1 || x.k == 2)) b L
  | [], b, _ => by cases b <;> rfl
  | x :: R, false, h => by
    show (eK x.k && tF false true R) = (eK x.k && altB _ _ true R)
    rw [tF_e R true (fun y hy => h y (List.mem_cons_of_mem _ hy))]
  | x :: R, true, h => by
    show (opOk false x && tF false false R) = ((x.k == 1 || x.k == 2) && altB _ _ false R)
    rw [tF_e R false (fun y hy => h y (List.mem_cons_of_mem _ hy))]
    have e : opOk false x = (x.k == 1 || x.k == 2) := by
      show (x.ks.len == 0 && (x.k == 1 || x.k == 2)) = _
      cases hk : (x.k == 1 || x.k == 2) with
      | false => rw [Bool.and_false]
      | true =>
        rw [len_of_ok (h x (List.mem_cons_self ..)) (by simpa using hk)]
        rfl
    rw [e]
theorem tF_p : ∀ (L : List Kn) (b : Bool), (∀ x, x ∈ L → okI x = true) → tF true b L = altB (fun x => pK x.k) (fun x => (x.k == 32 && x.ks.len == 0)) b L
  | [], b, _ => by cases b <;> rfl
  | x :: R, false, h => by
    show (pK x.k && tF true true R) = (pK x.k && altB _ _ true R)
    rw [tF_p R true (fun y hy => h y (List.mem_cons_of_mem _ hy))]
  | x :: R, true, h => by
    show (opOk true x && tF true false R) = ((x.k == 32 && x.ks.len == 0) && altB _ _ false R)
    rw [tF_p R false (fun y hy => h y (List.mem_cons_of_mem _ hy))]
    have e : opOk true x = (x.k == 32 && x.ks.len == 0) := by
      show (x.ks.len == 0 && (x.k == 32 && cn x.nm)) = _
      cases hk : (x.k == 32) with
      | false => rw [Bool.false_and, Bool.false_and, Bool.and_false]
      | true =>
        rw [cn_of_ok (h x (List.mem_cons_self ..)) (by simpa using hk), Bool.and_true, Bool.and_true, Bool.true_and]
    rw [e]
theorem odd3 (n : Nat) (X : Bool) : (decide (3 ≤ n) && (n % 2 == 1 && X)) = (X && (decide (1 < n) && n % 2 == 1)) := by
  by_cases h : n % 2 = 1
  · rw [h]
    by_cases h3 : 3 ≤ n
    · rw [decide_eq_true h3, decide_eq_true (by omega)]; cases X <;> rfl
    · rw [decide_eq_false h3, decide_eq_false (by omega)]; cases X <;> rfl
  · rw [beq_eq_false_iff_ne.2 h]; cases X <;> cases decide (3 ≤ n) <;> cases decide (1 < n) <;> rfl
theorem eq18 (nm : ByteArray) (L : List Kn) (h : ∀ x, x ∈ L → okI x = true) : kidsF 18 nm L = kidsI 18 L := by
  rw [kidsI18, kidsF18]
  unfold turnsM
  rw [odd3, tF_e L false h]
theorem eq41 (nm : ByteArray) (L : List Kn) (h : ∀ x, x ∈ L → okI x = true) : kidsF 41 nm L = kidsI 41 L := by
  rw [kidsI41, kidsF41]
  unfold turnsM
  rw [odd3, tF_p L false h]

theorem kidsI_else (k : Int) (L : List Kn) (n1 : k ≠ 1) (n2 : k ≠ 2) (n3 : k ≠ 3) (n4 : k ≠ 4) (n5 : k ≠ 5) (n6 : k ≠ 6) (n7 : k ≠ 7) (n8 : k ≠ 8) (n9 : k ≠ 9) (n10 : k ≠ 10) (n11 : k ≠ 11) (n12 : k ≠ 12) (n13 : k ≠ 13) (n14 : k ≠ 14) (n15 : k ≠ 15) (n16 : k ≠ 16) (n17 : k ≠ 17) (n18 : k ≠ 18) (n19 : k ≠ 19) (n20 : k ≠ 20) (n21 : k ≠ 21) (n22 : k ≠ 22) (n23 : k ≠ 23) (n30 : k ≠ 30) (n31 : k ≠ 31) (n32 : k ≠ 32) (n33 : k ≠ 33) (n34 : k ≠ 34) (n35 : k ≠ 35) (n36 : k ≠ 36) (n37 : k ≠ 37) (n38 : k ≠ 38) (n39 : k ≠ 39) (n40 : k ≠ 40) (n41 : k ≠ 41) (n50 : k ≠ 50) (n51 : k ≠ 51) (n52 : k ≠ 52) (n53 : k ≠ 53) (n54 : k ≠ 54) (n55 : k ≠ 55) (n60 : k ≠ 60) (n61 : k ≠ 61) (n62 : k ≠ 62) (n63 : k ≠ 63) (n64 : k ≠ 64) (n65 : k ≠ 65) (n66 : k ≠ 66) (n67 : k ≠ 67) (n68 : k ≠ 68) (n69 : k ≠ 69) (n70 : k ≠ 70) (n71 : k ≠ 71) : kidsI k L = false := by
  have h : shT.find? (fun e => e.1 == k) = none := by
    unfold shT
    simp only [List.find?_eq_none, List.mem_cons, List.not_mem_nil, or_false, forall_eq_or_imp, forall_eq, beq_iff_eq]
    exact ⟨Ne.symm n1, Ne.symm n2, Ne.symm n3, Ne.symm n4, Ne.symm n5, Ne.symm n6, Ne.symm n7, Ne.symm n8, Ne.symm n9, Ne.symm n10, Ne.symm n11, Ne.symm n12, Ne.symm n13, Ne.symm n14, Ne.symm n15, Ne.symm n16, Ne.symm n17, Ne.symm n19, Ne.symm n20, Ne.symm n21, Ne.symm n22, Ne.symm n23, Ne.symm n30, Ne.symm n31, Ne.symm n32, Ne.symm n33, Ne.symm n34, Ne.symm n35, Ne.symm n36, Ne.symm n37, Ne.symm n38, Ne.symm n39, Ne.symm n40, Ne.symm n50, Ne.symm n51, Ne.symm n52, Ne.symm n53, Ne.symm n54, Ne.symm n55, Ne.symm n60, Ne.symm n61, Ne.symm n62, Ne.symm n63, Ne.symm n64, Ne.symm n65, Ne.symm n66, Ne.symm n67, Ne.symm n68, Ne.symm n69, Ne.symm n70, Ne.symm n71⟩
  have e : shS k = ⟨#[110, 111, 110, 101]⟩ := by unfold shS; rw [h]
  unfold kidsI
  rw [if_neg n18, if_neg n41, e, any_none, shp_none]
  cases L <;> rfl

set_option maxRecDepth 100000 in
/-- The model's word on a node is the program's, if it is on its kids. -/
theorem shape_eq (k : Int) (nm : ByteArray) (L : List Kn) (hok : ∀ x, x ∈ L → okI x = true) : (nmF k nm true && kidsF k nm L) = (nmF k nm (L.length == 0) && kidsI k L) := by
  by_cases n70 : k = 70
  · subst n70; exact eq70 nm L
  rw [nmF_b k nm true (L.length == 0) n70]
  refine congrArg _ ?_
  by_cases n1 : k = 1
  · subst n1; exact eq1 nm L
  by_cases n2 : k = 2
  · subst n2; exact eq2 nm L
  by_cases n3 : k = 3
  · subst n3; exact eq3 nm L
  by_cases n4 : k = 4
  · subst n4; exact eq4 nm L
  by_cases n5 : k = 5
  · subst n5; exact eq5 nm L
  by_cases n6 : k = 6
  · subst n6; exact eq6 nm L
  by_cases n7 : k = 7
  · subst n7; exact eq7 nm L
  by_cases n8 : k = 8
  · subst n8; exact eq8 nm L
  by_cases n9 : k = 9
  · subst n9; exact eq9 nm L
  by_cases n10 : k = 10
  · subst n10; exact eq10 nm L
  by_cases n11 : k = 11
  · subst n11; exact eq11 nm L
  by_cases n12 : k = 12
  · subst n12; exact eq12 nm L
  by_cases n13 : k = 13
  · subst n13; exact eq13 nm L
  by_cases n14 : k = 14
  · subst n14; exact eq14 nm L
  by_cases n15 : k = 15
  · subst n15; exact eq15 nm L
  by_cases n16 : k = 16
  · subst n16; exact eq16 nm L
  by_cases n17 : k = 17
  · subst n17; exact eq17 nm L
  by_cases n18 : k = 18
  · subst n18; exact eq18 nm L hok
  by_cases n19 : k = 19
  · subst n19; exact eq19 nm L
  by_cases n20 : k = 20
  · subst n20; exact eq20 nm L
  by_cases n21 : k = 21
  · subst n21; exact eq21 nm L
  by_cases n22 : k = 22
  · subst n22; exact eq22 nm L
  by_cases n23 : k = 23
  · subst n23; exact eq23 nm L
  by_cases n30 : k = 30
  · subst n30; exact eq30 nm L
  by_cases n31 : k = 31
  · subst n31; exact eq31 nm L
  by_cases n32 : k = 32
  · subst n32; exact eq32 nm L
  by_cases n33 : k = 33
  · subst n33; exact eq33 nm L
  by_cases n34 : k = 34
  · subst n34; exact eq34 nm L
  by_cases n35 : k = 35
  · subst n35; exact eq35 nm L
  by_cases n36 : k = 36
  · subst n36; exact eq36 nm L
  by_cases n37 : k = 37
  · subst n37; exact eq37 nm L
  by_cases n38 : k = 38
  · subst n38; exact eq38 nm L
  by_cases n39 : k = 39
  · subst n39; exact eq39 nm L
  by_cases n40 : k = 40
  · subst n40; exact eq40 nm L
  by_cases n41 : k = 41
  · subst n41; exact eq41 nm L hok
  by_cases n50 : k = 50
  · subst n50; exact eq50 nm L
  by_cases n51 : k = 51
  · subst n51; exact eq51 nm L
  by_cases n52 : k = 52
  · subst n52; exact eq52 nm L
  by_cases n53 : k = 53
  · subst n53; exact eq53 nm L
  by_cases n54 : k = 54
  · subst n54; exact eq54 nm L
  by_cases n55 : k = 55
  · subst n55; exact eq55 nm L
  by_cases n60 : k = 60
  · subst n60; exact eq60 nm L
  by_cases n61 : k = 61
  · subst n61; exact eq61 nm L
  by_cases n62 : k = 62
  · subst n62; exact eq62 nm L
  by_cases n63 : k = 63
  · subst n63; exact eq63 nm L
  by_cases n64 : k = 64
  · subst n64; exact eq64 nm L
  by_cases n65 : k = 65
  · subst n65; exact eq65 nm L
  by_cases n66 : k = 66
  · subst n66; exact eq66 nm L
  by_cases n67 : k = 67
  · subst n67; exact eq67 nm L
  by_cases n68 : k = 68
  · subst n68; exact eq68 nm L
  by_cases n69 : k = 69
  · subst n69; exact eq69 nm L
  by_cases n71 : k = 71
  · subst n71; exact eq71 nm L
  rw [kidsI_else k L n1 n2 n3 n4 n5 n6 n7 n8 n9 n10 n11 n12 n13 n14 n15 n16 n17 n18 n19 n20 n21 n22 n23 n30 n31 n32 n33 n34 n35 n36 n37 n38 n39 n40 n41 n50 n51 n52 n53 n54 n55 n60 n61 n62 n63 n64 n65 n66 n67 n68 n69 n70 n71, kidsF_else k nm L (by omega) (by omega) (by omega) (by omega)]

/-- A part none of whose kids are names that mean everything. -/
def Okp (p : ByteArray) : Prop := (∀ x, cqF p x = true → exOK x) ∧ (starP p = true → (p.toList == (trimP p).toList) = false)
def Okl (PS : List ByteArray) : Prop := ∀ p, p ∈ PS → Okp p
theorem Okl.nil : Okl [] := fun p hp => by cases hp
theorem Okp.cons {p : ByteArray} {R : List ByteArray} (h : Okp p) (t : Okl R) : Okl (p :: R) := fun q hq => by
  rcases List.mem_cons.1 hq with rfl | hq
  · exact h
  · exact t q hq
theorem Okl.ex {PS : List ByteArray} {L : List Kn} (h : Okl PS) (hs : shp cqF PS L = true) : ∀ x, x ∈ L → exOK x := shp_ex PS L (fun p hp => (h p hp).1) (fun p hp => (h p hp).2) hs
theorem Okl.ex2 {PS QS : List ByteArray} {L : List Kn} (h : Okl PS) (h2 : Okl QS) (hs : (shp cqF PS L || shp cqF QS L) = true) : ∀ x, x ∈ L → exOK x := by
  rcases (Bool.or_eq_true _ _).mp hs with e | e
  · exact h.ex e
  · exact h2.ex e
theorem okp_altP : Okp ⟨#[97, 108, 116, 43]⟩ := ⟨ex_altP, fun h => by first | exact tq_altP | (rw [sq_altP] at h; cases h)⟩
theorem okp_boundS : Okp ⟨#[98, 111, 117, 110, 100, 42]⟩ := ⟨ex_boundS, fun h => by first | exact tq_boundS | (rw [sq_boundS] at h; cases h)⟩
theorem okp_clauseS : Okp ⟨#[99, 108, 97, 117, 115, 101, 42]⟩ := ⟨ex_clauseS, fun h => by first | exact tq_clauseS | (rw [sq_clauseS] at h; cases h)⟩
theorem okp_constrP : Okp ⟨#[99, 111, 110, 115, 116, 114, 43]⟩ := ⟨ex_constrP, fun h => by first | exact tq_constrP | (rw [sq_constrP] at h; cases h)⟩
theorem okp_context : Okp ⟨#[99, 111, 110, 116, 101, 120, 116]⟩ := ⟨ex_context, fun h => by first | exact tq_context | (rw [sq_context] at h; cases h)⟩
theorem okp_dS : Okp ⟨#[100, 42]⟩ := ⟨ex_dS, fun h => by first | exact tq_dS | (rw [sq_dS] at h; cases h)⟩
theorem okp_e : Okp ⟨#[101]⟩ := ⟨ex_e, fun h => by first | exact tq_e | (rw [sq_e] at h; cases h)⟩
theorem okp_eS : Okp ⟨#[101, 42]⟩ := ⟨ex_eS, fun h => by first | exact tq_eS | (rw [sq_eS] at h; cases h)⟩
theorem okp_eP : Okp ⟨#[101, 43]⟩ := ⟨ex_eP, fun h => by first | exact tq_eP | (rw [sq_eP] at h; cases h)⟩
theorem okp_guardP : Okp ⟨#[103, 117, 97, 114, 100, 43]⟩ := ⟨ex_guardP, fun h => by first | exact tq_guardP | (rw [sq_guardP] at h; cases h)⟩
theorem okp_importS : Okp ⟨#[105, 109, 112, 111, 114, 116, 42]⟩ := ⟨ex_importS, fun h => by first | exact tq_importS | (rw [sq_importS] at h; cases h)⟩
theorem okp_itemS : Okp ⟨#[105, 116, 101, 109, 42]⟩ := ⟨ex_itemS, fun h => by first | exact tq_itemS | (rw [sq_itemS] at h; cases h)⟩
theorem okp_level : Okp ⟨#[108, 101, 118, 101, 108]⟩ := ⟨ex_level, fun h => by first | exact tq_level | (rw [sq_level] at h; cases h)⟩
theorem okp_names : Okp ⟨#[110, 97, 109, 101, 115]⟩ := ⟨ex_names, fun h => by first | exact tq_names | (rw [sq_names] at h; cases h)⟩
theorem okp_p : Okp ⟨#[112]⟩ := ⟨ex_p, fun h => by first | exact tq_p | (rw [sq_p] at h; cases h)⟩
theorem okp_pS : Okp ⟨#[112, 42]⟩ := ⟨ex_pS, fun h => by first | exact tq_pS | (rw [sq_pS] at h; cases h)⟩
theorem okp_pP : Okp ⟨#[112, 43]⟩ := ⟨ex_pP, fun h => by first | exact tq_pP | (rw [sq_pP] at h; cases h)⟩
theorem okp_qualP : Okp ⟨#[113, 117, 97, 108, 43]⟩ := ⟨ex_qualP, fun h => by first | exact tq_qualP | (rw [sq_qualP] at h; cases h)⟩
theorem okp_rhs : Okp ⟨#[114, 104, 115]⟩ := ⟨ex_rhs, fun h => by first | exact tq_rhs | (rw [sq_rhs] at h; cases h)⟩
theorem okp_sigS : Okp ⟨#[115, 105, 103, 42]⟩ := ⟨ex_sigS, fun h => by first | exact tq_sigS | (rw [sq_sigS] at h; cases h)⟩
theorem okp_t : Okp ⟨#[116]⟩ := ⟨ex_t, fun h => by first | exact tq_t | (rw [sq_t] at h; cases h)⟩
theorem okp_tS : Okp ⟨#[116, 42]⟩ := ⟨ex_tS, fun h => by first | exact tq_tS | (rw [sq_tS] at h; cases h)⟩
theorem okp_tP : Okp ⟨#[116, 43]⟩ := ⟨ex_tP, fun h => by first | exact tq_tP | (rw [sq_tP] at h; cases h)⟩
theorem okp_topS : Okp ⟨#[116, 111, 112, 42]⟩ := ⟨ex_topS, fun h => by first | exact tq_topS | (rw [sq_topS] at h; cases h)⟩
theorem okp_tvar : Okp ⟨#[116, 118, 97, 114]⟩ := ⟨ex_tvar, fun h => by first | exact tq_tvar | (rw [sq_tvar] at h; cases h)⟩
theorem alt_ex {q0 q1 : Kn → Bool} (h0 : ∀ x, q0 x = true → exOK x) (h1 : ∀ x, q1 x = true → exOK x) : ∀ (L : List Kn) (b : Bool), altB q0 q1 b L = true → ∀ x, x ∈ L → exOK x
  | [], _, _, x, hx => by cases hx
  | y :: R, false, h, x, hx => by
    have h2 := (Bool.and_eq_true _ _).mp h
    rcases List.mem_cons.1 hx with rfl | hx
    · exact h0 _ h2.1
    · exact alt_ex h0 h1 R true h2.2 x hx
  | y :: R, true, h, x, hx => by
    have h2 := (Bool.and_eq_true _ _).mp h
    rcases List.mem_cons.1 hx with rfl | hx
    · exact h1 _ h2.1
    · exact alt_ex h0 h1 R false h2.2 x hx

set_option maxRecDepth 100000 in
theorem ex_of (k : Int) (L : List Kn) (h : kidsI k L = true) : ∀ (i : Nat) (x : Kn), L[i]? = some x → exK k i x.k x.nm = true := by
  intro i x hx
  by_cases n68 : k = 68
  · subst n68
    rw [kidsI68, shp_exports] at h
    cases L with
    | nil => cases hx
    | cons y T =>
      have h2 := (Bool.and_eq_true _ _).mp h
      cases i with
      | zero => unfold exK; cases x.k == 70 <;> cases x.nm.toList.isEmpty <;> rfl
      | succ i =>
        rw [List.getElem?_cons_succ] at hx
        exact ((okp_importS.cons (okp_topS.cons .nil)).ex h2.2 x (List.mem_of_getElem? hx)).exK _ _
  refine exOK.exK ?_ k i
  have hm := List.mem_of_getElem? hx
  by_cases n18 : k = 18
  · subst n18
    rw [kidsI18] at h
    exact alt_ex (fun y hy => ex_e y hy) (fun y hy => .inl (fun e => by simp [e] at hy)) L false ((Bool.and_eq_true _ _).mp h).1 x hm
  by_cases n41 : k = 41
  · subst n41
    rw [kidsI41] at h
    exact alt_ex (fun y hy => ex_p y hy) (fun y hy => .inl (fun e => by simp [e] at hy)) L false ((Bool.and_eq_true _ _).mp h).1 x hm
  by_cases n1 : k = 1
  · subst n1; rw [kidsI1] at h; exact Okl.ex (PS := []) (Okl.nil) h x hm
  by_cases n2 : k = 2
  · subst n2; rw [kidsI2] at h; exact Okl.ex (PS := []) (Okl.nil) h x hm
  by_cases n3 : k = 3
  · subst n3; rw [kidsI3] at h; exact Okl.ex (PS := []) (Okl.nil) h x hm
  by_cases n4 : k = 4
  · subst n4; rw [kidsI4] at h; exact Okl.ex (PS := []) (Okl.nil) h x hm
  by_cases n5 : k = 5
  · subst n5; rw [kidsI5] at h; exact Okl.ex (PS := []) (Okl.nil) h x hm
  by_cases n6 : k = 6
  · subst n6; rw [kidsI6] at h; exact Okl.ex (PS := [⟨#[101]⟩, ⟨#[101, 43]⟩]) (okp_e.cons (okp_eP.cons .nil)) h x hm
  by_cases n7 : k = 7
  · subst n7; rw [kidsI7] at h; exact Okl.ex (PS := [⟨#[112, 43]⟩, ⟨#[101]⟩]) (okp_pP.cons (okp_e.cons .nil)) h x hm
  by_cases n8 : k = 8
  · subst n8; rw [kidsI8] at h; exact Okl.ex (PS := [⟨#[100, 42]⟩, ⟨#[101]⟩]) (okp_dS.cons (okp_e.cons .nil)) h x hm
  by_cases n9 : k = 9
  · subst n9; rw [kidsI9] at h; exact Okl.ex (PS := [⟨#[101]⟩, ⟨#[101]⟩, ⟨#[101]⟩]) (okp_e.cons (okp_e.cons (okp_e.cons .nil))) h x hm
  by_cases n10 : k = 10
  · subst n10; rw [kidsI10] at h; exact Okl.ex (PS := [⟨#[101]⟩, ⟨#[97, 108, 116, 43]⟩]) (okp_e.cons (okp_altP.cons .nil)) h x hm
  by_cases n11 : k = 11
  · subst n11; rw [kidsI11] at h; exact Okl.ex2 (PS := []) (QS := [⟨#[101]⟩, ⟨#[101, 43]⟩]) (Okl.nil) (okp_e.cons (okp_eP.cons .nil)) h x hm
  by_cases n12 : k = 12
  · subst n12; rw [kidsI12] at h; exact Okl.ex (PS := [⟨#[101, 42]⟩]) (okp_eS.cons .nil) h x hm
  by_cases n13 : k = 13
  · subst n13; rw [kidsI13] at h; exact Okl.ex (PS := [⟨#[101]⟩, ⟨#[101]⟩]) (okp_e.cons (okp_e.cons .nil)) h x hm
  by_cases n14 : k = 14
  · subst n14; rw [kidsI14] at h; exact Okl.ex (PS := [⟨#[101]⟩, ⟨#[113, 117, 97, 108, 43]⟩]) (okp_e.cons (okp_qualP.cons .nil)) h x hm
  by_cases n15 : k = 15
  · subst n15; rw [kidsI15] at h; exact Okl.ex (PS := [⟨#[101]⟩]) (okp_e.cons .nil) h x hm
  by_cases n16 : k = 16
  · subst n16; rw [kidsI16] at h; exact Okl.ex (PS := [⟨#[101]⟩]) (okp_e.cons .nil) h x hm
  by_cases n17 : k = 17
  · subst n17; rw [kidsI17] at h; exact Okl.ex (PS := [⟨#[101]⟩]) (okp_e.cons .nil) h x hm
  by_cases n19 : k = 19
  · subst n19; rw [kidsI19] at h; exact Okl.ex (PS := [⟨#[112]⟩, ⟨#[114, 104, 115]⟩]) (okp_p.cons (okp_rhs.cons .nil)) h x hm
  by_cases n20 : k = 20
  · subst n20; rw [kidsI20] at h; exact Okl.ex2 (PS := [⟨#[101]⟩, ⟨#[100, 42]⟩]) (QS := [⟨#[103, 117, 97, 114, 100, 43]⟩, ⟨#[100, 42]⟩]) (okp_e.cons (okp_dS.cons .nil)) (okp_guardP.cons (okp_dS.cons .nil)) h x hm
  by_cases n21 : k = 21
  · subst n21; rw [kidsI21] at h; exact Okl.ex (PS := [⟨#[101]⟩, ⟨#[101]⟩]) (okp_e.cons (okp_e.cons .nil)) h x hm
  by_cases n22 : k = 22
  · subst n22; rw [kidsI22] at h; exact Okl.ex (PS := [⟨#[112]⟩, ⟨#[101]⟩]) (okp_p.cons (okp_e.cons .nil)) h x hm
  by_cases n23 : k = 23
  · subst n23; rw [kidsI23] at h; exact Okl.ex (PS := [⟨#[101]⟩]) (okp_e.cons .nil) h x hm
  by_cases n30 : k = 30
  · subst n30; rw [kidsI30] at h; exact Okl.ex (PS := []) (Okl.nil) h x hm
  by_cases n31 : k = 31
  · subst n31; rw [kidsI31] at h; exact Okl.ex (PS := []) (Okl.nil) h x hm
  by_cases n32 : k = 32
  · subst n32; rw [kidsI32] at h; exact Okl.ex (PS := [⟨#[112, 42]⟩]) (okp_pS.cons .nil) h x hm
  by_cases n33 : k = 33
  · subst n33; rw [kidsI33] at h; exact Okl.ex (PS := []) (Okl.nil) h x hm
  by_cases n34 : k = 34
  · subst n34; rw [kidsI34] at h; exact Okl.ex (PS := []) (Okl.nil) h x hm
  by_cases n35 : k = 35
  · subst n35; rw [kidsI35] at h; exact Okl.ex (PS := []) (Okl.nil) h x hm
  by_cases n36 : k = 36
  · subst n36; rw [kidsI36] at h; exact Okl.ex2 (PS := []) (QS := [⟨#[112]⟩, ⟨#[112, 43]⟩]) (Okl.nil) (okp_p.cons (okp_pP.cons .nil)) h x hm
  by_cases n37 : k = 37
  · subst n37; rw [kidsI37] at h; exact Okl.ex (PS := [⟨#[112, 42]⟩]) (okp_pS.cons .nil) h x hm
  by_cases n38 : k = 38
  · subst n38; rw [kidsI38] at h; exact Okl.ex (PS := [⟨#[112]⟩]) (okp_p.cons .nil) h x hm
  by_cases n39 : k = 39
  · subst n39; rw [kidsI39] at h; exact Okl.ex (PS := [⟨#[112]⟩]) (okp_p.cons .nil) h x hm
  by_cases n40 : k = 40
  · subst n40; rw [kidsI40] at h; exact Okl.ex (PS := [⟨#[112]⟩]) (okp_p.cons .nil) h x hm
  by_cases n50 : k = 50
  · subst n50; rw [kidsI50] at h; exact Okl.ex (PS := []) (Okl.nil) h x hm
  by_cases n51 : k = 51
  · subst n51; rw [kidsI51] at h; exact Okl.ex (PS := []) (Okl.nil) h x hm
  by_cases n52 : k = 52
  · subst n52; rw [kidsI52] at h; exact Okl.ex (PS := [⟨#[116]⟩, ⟨#[116, 43]⟩]) (okp_t.cons (okp_tP.cons .nil)) h x hm
  by_cases n53 : k = 53
  · subst n53; rw [kidsI53] at h; exact Okl.ex (PS := [⟨#[116]⟩, ⟨#[116]⟩]) (okp_t.cons (okp_t.cons .nil)) h x hm
  by_cases n54 : k = 54
  · subst n54; rw [kidsI54] at h; exact Okl.ex2 (PS := []) (QS := [⟨#[116]⟩, ⟨#[116, 43]⟩]) (Okl.nil) (okp_t.cons (okp_tP.cons .nil)) h x hm
  by_cases n55 : k = 55
  · subst n55; rw [kidsI55] at h; exact Okl.ex (PS := [⟨#[116]⟩]) (okp_t.cons .nil) h x hm
  by_cases n60 : k = 60
  · subst n60; rw [kidsI60] at h; exact Okl.ex (PS := [⟨#[110, 97, 109, 101, 115]⟩, ⟨#[99, 111, 110, 116, 101, 120, 116]⟩, ⟨#[116]⟩]) (okp_names.cons (okp_context.cons (okp_t.cons .nil))) h x hm
  by_cases n61 : k = 61
  · subst n61; rw [kidsI61] at h; exact Okl.ex (PS := [⟨#[112, 42]⟩, ⟨#[114, 104, 115]⟩]) (okp_pS.cons (okp_rhs.cons .nil)) h x hm
  by_cases n62 : k = 62
  · subst n62; rw [kidsI62] at h; exact Okl.ex (PS := [⟨#[108, 101, 118, 101, 108]⟩, ⟨#[110, 97, 109, 101, 115]⟩]) (okp_level.cons (okp_names.cons .nil)) h x hm
  by_cases n63 : k = 63
  · subst n63; rw [kidsI63] at h; exact Okl.ex (PS := [⟨#[110, 97, 109, 101, 115]⟩, ⟨#[99, 111, 110, 115, 116, 114, 43]⟩, ⟨#[110, 97, 109, 101, 115]⟩]) (okp_names.cons (okp_constrP.cons (okp_names.cons .nil))) h x hm
  by_cases n64 : k = 64
  · subst n64; rw [kidsI64] at h; exact Okl.ex (PS := [⟨#[116, 42]⟩]) (okp_tS.cons .nil) h x hm
  by_cases n65 : k = 65
  · subst n65; rw [kidsI65] at h; exact Okl.ex (PS := [⟨#[99, 111, 110, 116, 101, 120, 116]⟩, ⟨#[116, 118, 97, 114]⟩, ⟨#[115, 105, 103, 42]⟩]) (okp_context.cons (okp_tvar.cons (okp_sigS.cons .nil))) h x hm
  by_cases n66 : k = 66
  · subst n66; rw [kidsI66] at h; exact Okl.ex (PS := [⟨#[99, 111, 110, 116, 101, 120, 116]⟩, ⟨#[116]⟩, ⟨#[99, 108, 97, 117, 115, 101, 42]⟩]) (okp_context.cons (okp_t.cons (okp_clauseS.cons .nil))) h x hm
  by_cases n67 : k = 67
  · subst n67; rw [kidsI67] at h; exact Okl.ex2 (PS := []) (QS := [⟨#[110, 97, 109, 101, 115]⟩]) (Okl.nil) (okp_names.cons .nil) h x hm
  by_cases n69 : k = 69
  · subst n69; rw [kidsI69] at h; exact Okl.ex (PS := [⟨#[98, 111, 117, 110, 100, 42]⟩]) (okp_boundS.cons .nil) h x hm
  by_cases n70 : k = 70
  · subst n70; rw [kidsI70] at h; exact Okl.ex (PS := [⟨#[105, 116, 101, 109, 42]⟩]) (okp_itemS.cons .nil) h x hm
  by_cases n71 : k = 71
  · subst n71; rw [kidsI71] at h; exact Okl.ex (PS := []) (Okl.nil) h x hm
  rw [kidsI_else k L n1 n2 n3 n4 n5 n6 n7 n8 n9 n10 n11 n12 n13 n14 n15 n16 n17 n18 n19 n20 n21 n22 n23 n30 n31 n32 n33 n34 n35 n36 n37 n38 n39 n40 n41 n50 n51 n52 n53 n54 n55 n60 n61 n62 n63 n64 n65 n66 n67 n68 n69 n70 n71] at h
  cases h

def Fo.allI : Fo → Bool
  | .nil => true
  | .cons k nm a cap ks r => okI ⟨k, nm, a, cap, ks⟩ && (ks.allI && r.allI)
def Fo.exAll : Fo → Int → Nat → Bool
  | .nil, _, _ => true
  | .cons k nm _ _ _ r, pk, i => exK pk i k nm && r.exAll pk (i + 1)

theorem Fo.nodes_all : ∀ F : Fo, F.nodes.all okI = F.allI
  | .nil => rfl
  | .cons k nm a cap ks r => by
    show (okI ⟨k, nm, a, cap, ks⟩ && (ks.nodes ++ r.nodes).all okI) = _
    rw [List.all_append, ks.nodes_all, r.nodes_all]
    rfl
theorem Fo.allI_list : ∀ F : Fo, F.allI = true → ∀ x, x ∈ F.list → okI x = true
  | .nil, _, x, hx => by cases hx
  | .cons k nm a cap ks r, h, x, hx => by
    have h2 := (Bool.and_eq_true _ _).mp h
    have h3 := (Bool.and_eq_true _ _).mp h2.2
    rcases List.mem_cons.1 hx with rfl | hx
    · exact h2.1
    · exact r.allI_list h3.2 x hx
theorem Fo.exAll_of : ∀ (F : Fo) (pk : Int) (j : Nat), (∀ (i : Nat) (x : Kn), F.list[i]? = some x → exK pk (j + i) x.k x.nm = true) → F.exAll pk j = true
  | .nil, _, _, _ => rfl
  | .cons k nm a cap ks r, pk, j, h => by
    show (exK pk j k nm && r.exAll pk (j + 1)) = true
    have h0 : exK pk j k nm = true := h 0 ⟨k, nm, a, cap, ks⟩ rfl
    rw [h0, Bool.true_and]
    refine r.exAll_of pk (j + 1) (fun i x hx => ?_)
    have := h (i + 1) x hx
    rwa [show j + (i + 1) = j + 1 + i by omega] at this

theorem node_eq (k : Int) (nm : ByteArray) (a : Option Addr) (cap : Nat) (ks : Fo) (X : Bool) (hX : X = (ks.allI && ks.exAll k 0)) : (shapeM k nm ks.list && X) = (okI ⟨k, nm, a, cap, ks⟩ && ks.allI) := by
  rw [hX]
  cases hA : ks.allI with
  | false => rw [Bool.false_and, Bool.and_false, Bool.and_false]
  | true =>
    have e := shape_eq k nm ks.list (ks.allI_list hA)
    rw [Fo.list_length] at e
    have e2 : shapeM k nm ks.list = okI ⟨k, nm, a, cap, ks⟩ := e
    rw [Bool.true_and, Bool.and_true, e2]
    cases hO : okI ⟨k, nm, a, cap, ks⟩ with
    | false => rfl
    | true =>
      rw [Bool.true_and]
      refine ks.exAll_of k 0 (fun i x hx => ?_)
      rw [Nat.zero_add]
      exact ex_of k ks.list ((Bool.and_eq_true _ _).mp hO).2 i x hx

theorem Fo.row_eq : ∀ (F : Fo) (pk : Int) (i : Nat), F.rowM pk i = (F.allI && F.exAll pk i)
  | .nil, _, _ => rfl
  | .cons k nm a cap ks r, pk, i => by
    show ((shapeM k nm ks.list && ks.rowM k 0) && (exK pk i k nm && r.rowM pk (i + 1))) = ((okI ⟨k, nm, a, cap, ks⟩ && (ks.allI && r.allI)) && (exK pk i k nm && r.exAll pk (i + 1)))
    rw [node_eq k nm a cap ks _ (ks.row_eq k 0), r.row_eq pk (i + 1)]
    cases okI ⟨k, nm, a, cap, ks⟩ <;> cases ks.allI <;> cases r.allI <;> cases exK pk i k nm <;> rfl

/-- The model and the program agree on all nodes. -/
theorem nodeM_eq (k : Int) (nm : ByteArray) (a : Option Addr) (cap : Nat) (ks : Fo) : nodeM k nm ks = (Fo.cons k nm a cap ks .nil).nodes.all okI := by
  rw [Fo.nodes_all]
  show (shapeM k nm ks.list && ks.rowM k 0) = (okI ⟨k, nm, a, cap, ks⟩ && (ks.allI && true))
  rw [node_eq k nm a cap ks _ (ks.row_eq k 0), Bool.and_true]

end Go.Proofs.YtjfoagmenehapaaGreatDoor.Tree

