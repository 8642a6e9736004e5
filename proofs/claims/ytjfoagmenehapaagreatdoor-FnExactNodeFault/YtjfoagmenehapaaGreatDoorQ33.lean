import Derived.Test.YtjfoagmenehapaaGreatDoorQ31
import Derived.Test.YtjfoagmenehapaaGreatDoorQ32
namespace Go.Proofs.YtjfoagmenehapaaGreatDoor.Tree
open Go.RowKit Go.Joins

theorem spl_nil : splF (((⟨#[]⟩ : ByteArray)).size + 1) ⟨#[]⟩ = [⟨#[]⟩] := by kernel_rfl
theorem rem_nil0 : remF ⟨#[]⟩ (⟨#[]⟩ : ByteArray).size 0 none = [] := by kernel_rfl
theorem good_nil : Good (splF (((⟨#[]⟩ : ByteArray)).size + 1) ⟨#[]⟩) := by
  rw [spl_nil]
  intro p hp
  simp only [List.mem_cons, List.not_mem_nil, or_false] at hp
  subst hp
  · refine ⟨by decide, by decide, ?_⟩
    rw [rem_nil0]
    intro q hq
    cases hq
theorem any_nil (L : List Kn) : anyS (splF (((⟨#[]⟩ : ByteArray)).size + 1) ⟨#[]⟩) L = (shp cqF [] L) := by
  rw [spl_nil]
  unfold anyS
  rw [List.any_cons, List.any_nil, Bool.or_false, rem_nil0]

theorem spl_boundS : splF (((⟨#[98, 111, 117, 110, 100, 42]⟩ : ByteArray)).size + 1) ⟨#[98, 111, 117, 110, 100, 42]⟩ = [⟨#[98, 111, 117, 110, 100, 42]⟩] := by kernel_rfl
theorem rem_boundS0 : remF ⟨#[98, 111, 117, 110, 100, 42]⟩ (⟨#[98, 111, 117, 110, 100, 42]⟩ : ByteArray).size 0 none = [⟨#[98, 111, 117, 110, 100, 42]⟩] := by kernel_rfl
theorem good_boundS : Good (splF (((⟨#[98, 111, 117, 110, 100, 42]⟩ : ByteArray)).size + 1) ⟨#[98, 111, 117, 110, 100, 42]⟩) := by
  rw [spl_boundS]
  intro p hp
  simp only [List.mem_cons, List.not_mem_nil, or_false] at hp
  subst hp
  · refine ⟨by decide, by decide, ?_⟩
    rw [rem_boundS0]
    intro q hq
    simp only [List.mem_cons, List.not_mem_nil, or_false] at hq
    subst hq
    exact part_boundS
theorem any_boundS (L : List Kn) : anyS (splF (((⟨#[98, 111, 117, 110, 100, 42]⟩ : ByteArray)).size + 1) ⟨#[98, 111, 117, 110, 100, 42]⟩) L = (shp cqF [⟨#[98, 111, 117, 110, 100, 42]⟩] L) := by
  rw [spl_boundS]
  unfold anyS
  rw [List.any_cons, List.any_nil, Bool.or_false, rem_boundS0]

theorem spl_context_t_clauseS : splF (((⟨#[99, 111, 110, 116, 101, 120, 116, 32, 116, 32, 99, 108, 97, 117, 115, 101, 42]⟩ : ByteArray)).size + 1) ⟨#[99, 111, 110, 116, 101, 120, 116, 32, 116, 32, 99, 108, 97, 117, 115, 101, 42]⟩ = [⟨#[99, 111, 110, 116, 101, 120, 116, 32, 116, 32, 99, 108, 97, 117, 115, 101, 42]⟩] := by kernel_rfl
theorem rem_context_t_clauseS0 : remF ⟨#[99, 111, 110, 116, 101, 120, 116, 32, 116, 32, 99, 108, 97, 117, 115, 101, 42]⟩ (⟨#[99, 111, 110, 116, 101, 120, 116, 32, 116, 32, 99, 108, 97, 117, 115, 101, 42]⟩ : ByteArray).size 0 none = [⟨#[99, 111, 110, 116, 101, 120, 116]⟩, ⟨#[116]⟩, ⟨#[99, 108, 97, 117, 115, 101, 42]⟩] := by kernel_rfl
theorem good_context_t_clauseS : Good (splF (((⟨#[99, 111, 110, 116, 101, 120, 116, 32, 116, 32, 99, 108, 97, 117, 115, 101, 42]⟩ : ByteArray)).size + 1) ⟨#[99, 111, 110, 116, 101, 120, 116, 32, 116, 32, 99, 108, 97, 117, 115, 101, 42]⟩) := by
  rw [spl_context_t_clauseS]
  intro p hp
  simp only [List.mem_cons, List.not_mem_nil, or_false] at hp
  subst hp
  · refine ⟨by decide, by decide, ?_⟩
    rw [rem_context_t_clauseS0]
    intro q hq
    simp only [List.mem_cons, List.not_mem_nil, or_false] at hq
    rcases hq with rfl | rfl | rfl
    · exact part_context
    · exact part_t
    · exact part_clauseS
theorem any_context_t_clauseS (L : List Kn) : anyS (splF (((⟨#[99, 111, 110, 116, 101, 120, 116, 32, 116, 32, 99, 108, 97, 117, 115, 101, 42]⟩ : ByteArray)).size + 1) ⟨#[99, 111, 110, 116, 101, 120, 116, 32, 116, 32, 99, 108, 97, 117, 115, 101, 42]⟩) L = (shp cqF [⟨#[99, 111, 110, 116, 101, 120, 116]⟩, ⟨#[116]⟩, ⟨#[99, 108, 97, 117, 115, 101, 42]⟩] L) := by
  rw [spl_context_t_clauseS]
  unfold anyS
  rw [List.any_cons, List.any_nil, Bool.or_false, rem_context_t_clauseS0]

theorem spl_context_tvar_sigS : splF (((⟨#[99, 111, 110, 116, 101, 120, 116, 32, 116, 118, 97, 114, 32, 115, 105, 103, 42]⟩ : ByteArray)).size + 1) ⟨#[99, 111, 110, 116, 101, 120, 116, 32, 116, 118, 97, 114, 32, 115, 105, 103, 42]⟩ = [⟨#[99, 111, 110, 116, 101, 120, 116, 32, 116, 118, 97, 114, 32, 115, 105, 103, 42]⟩] := by kernel_rfl
theorem rem_context_tvar_sigS0 : remF ⟨#[99, 111, 110, 116, 101, 120, 116, 32, 116, 118, 97, 114, 32, 115, 105, 103, 42]⟩ (⟨#[99, 111, 110, 116, 101, 120, 116, 32, 116, 118, 97, 114, 32, 115, 105, 103, 42]⟩ : ByteArray).size 0 none = [⟨#[99, 111, 110, 116, 101, 120, 116]⟩, ⟨#[116, 118, 97, 114]⟩, ⟨#[115, 105, 103, 42]⟩] := by kernel_rfl
theorem good_context_tvar_sigS : Good (splF (((⟨#[99, 111, 110, 116, 101, 120, 116, 32, 116, 118, 97, 114, 32, 115, 105, 103, 42]⟩ : ByteArray)).size + 1) ⟨#[99, 111, 110, 116, 101, 120, 116, 32, 116, 118, 97, 114, 32, 115, 105, 103, 42]⟩) := by
  rw [spl_context_tvar_sigS]
  intro p hp
  simp only [List.mem_cons, List.not_mem_nil, or_false] at hp
  subst hp
  · refine ⟨by decide, by decide, ?_⟩
    rw [rem_context_tvar_sigS0]
    intro q hq
    simp only [List.mem_cons, List.not_mem_nil, or_false] at hq
    rcases hq with rfl | rfl | rfl
    · exact part_context
    · exact part_tvar
    · exact part_sigS
theorem any_context_tvar_sigS (L : List Kn) : anyS (splF (((⟨#[99, 111, 110, 116, 101, 120, 116, 32, 116, 118, 97, 114, 32, 115, 105, 103, 42]⟩ : ByteArray)).size + 1) ⟨#[99, 111, 110, 116, 101, 120, 116, 32, 116, 118, 97, 114, 32, 115, 105, 103, 42]⟩) L = (shp cqF [⟨#[99, 111, 110, 116, 101, 120, 116]⟩, ⟨#[116, 118, 97, 114]⟩, ⟨#[115, 105, 103, 42]⟩] L) := by
  rw [spl_context_tvar_sigS]
  unfold anyS
  rw [List.any_cons, List.any_nil, Bool.or_false, rem_context_tvar_sigS0]

theorem spl_dS_e : splF (((⟨#[100, 42, 32, 101]⟩ : ByteArray)).size + 1) ⟨#[100, 42, 32, 101]⟩ = [⟨#[100, 42, 32, 101]⟩] := by kernel_rfl
theorem rem_dS_e0 : remF ⟨#[100, 42, 32, 101]⟩ (⟨#[100, 42, 32, 101]⟩ : ByteArray).size 0 none = [⟨#[100, 42]⟩, ⟨#[101]⟩] := by kernel_rfl
theorem good_dS_e : Good (splF (((⟨#[100, 42, 32, 101]⟩ : ByteArray)).size + 1) ⟨#[100, 42, 32, 101]⟩) := by
  rw [spl_dS_e]
  intro p hp
  simp only [List.mem_cons, List.not_mem_nil, or_false] at hp
  subst hp
  · refine ⟨by decide, by decide, ?_⟩
    rw [rem_dS_e0]
    intro q hq
    simp only [List.mem_cons, List.not_mem_nil, or_false] at hq
    rcases hq with rfl | rfl
    · exact part_dS
    · exact part_e
theorem any_dS_e (L : List Kn) : anyS (splF (((⟨#[100, 42, 32, 101]⟩ : ByteArray)).size + 1) ⟨#[100, 42, 32, 101]⟩) L = (shp cqF [⟨#[100, 42]⟩, ⟨#[101]⟩] L) := by
  rw [spl_dS_e]
  unfold anyS
  rw [List.any_cons, List.any_nil, Bool.or_false, rem_dS_e0]

theorem spl_e : splF (((⟨#[101]⟩ : ByteArray)).size + 1) ⟨#[101]⟩ = [⟨#[101]⟩] := by kernel_rfl
theorem rem_e0 : remF ⟨#[101]⟩ (⟨#[101]⟩ : ByteArray).size 0 none = [⟨#[101]⟩] := by kernel_rfl
theorem good_e : Good (splF (((⟨#[101]⟩ : ByteArray)).size + 1) ⟨#[101]⟩) := by
  rw [spl_e]
  intro p hp
  simp only [List.mem_cons, List.not_mem_nil, or_false] at hp
  subst hp
  · refine ⟨by decide, by decide, ?_⟩
    rw [rem_e0]
    intro q hq
    simp only [List.mem_cons, List.not_mem_nil, or_false] at hq
    subst hq
    exact part_e
theorem any_e (L : List Kn) : anyS (splF (((⟨#[101]⟩ : ByteArray)).size + 1) ⟨#[101]⟩) L = (shp cqF [⟨#[101]⟩] L) := by
  rw [spl_e]
  unfold anyS
  rw [List.any_cons, List.any_nil, Bool.or_false, rem_e0]

theorem spl_e_altP : splF (((⟨#[101, 32, 97, 108, 116, 43]⟩ : ByteArray)).size + 1) ⟨#[101, 32, 97, 108, 116, 43]⟩ = [⟨#[101, 32, 97, 108, 116, 43]⟩] := by kernel_rfl
theorem rem_e_altP0 : remF ⟨#[101, 32, 97, 108, 116, 43]⟩ (⟨#[101, 32, 97, 108, 116, 43]⟩ : ByteArray).size 0 none = [⟨#[101]⟩, ⟨#[97, 108, 116, 43]⟩] := by kernel_rfl
theorem good_e_altP : Good (splF (((⟨#[101, 32, 97, 108, 116, 43]⟩ : ByteArray)).size + 1) ⟨#[101, 32, 97, 108, 116, 43]⟩) := by
  rw [spl_e_altP]
  intro p hp
  simp only [List.mem_cons, List.not_mem_nil, or_false] at hp
  subst hp
  · refine ⟨by decide, by decide, ?_⟩
    rw [rem_e_altP0]
    intro q hq
    simp only [List.mem_cons, List.not_mem_nil, or_false] at hq
    rcases hq with rfl | rfl
    · exact part_e
    · exact part_altP
theorem any_e_altP (L : List Kn) : anyS (splF (((⟨#[101, 32, 97, 108, 116, 43]⟩ : ByteArray)).size + 1) ⟨#[101, 32, 97, 108, 116, 43]⟩) L = (shp cqF [⟨#[101]⟩, ⟨#[97, 108, 116, 43]⟩] L) := by
  rw [spl_e_altP]
  unfold anyS
  rw [List.any_cons, List.any_nil, Bool.or_false, rem_e_altP0]

theorem spl_e_dS_A_guardP_dS : splF (((⟨#[101, 32, 100, 42, 32, 124, 32, 103, 117, 97, 114, 100, 43, 32, 100, 42]⟩ : ByteArray)).size + 1) ⟨#[101, 32, 100, 42, 32, 124, 32, 103, 117, 97, 114, 100, 43, 32, 100, 42]⟩ = [⟨#[101, 32, 100, 42, 32]⟩, ⟨#[32, 103, 117, 97, 114, 100, 43, 32, 100, 42]⟩] := by kernel_rfl
theorem rem_e_dS_A_guardP_dS0 : remF ⟨#[101, 32, 100, 42, 32]⟩ (⟨#[101, 32, 100, 42, 32]⟩ : ByteArray).size 0 none = [⟨#[101]⟩, ⟨#[100, 42]⟩] := by kernel_rfl
theorem rem_e_dS_A_guardP_dS1 : remF ⟨#[32, 103, 117, 97, 114, 100, 43, 32, 100, 42]⟩ (⟨#[32, 103, 117, 97, 114, 100, 43, 32, 100, 42]⟩ : ByteArray).size 0 none = [⟨#[103, 117, 97, 114, 100, 43]⟩, ⟨#[100, 42]⟩] := by kernel_rfl
theorem good_e_dS_A_guardP_dS : Good (splF (((⟨#[101, 32, 100, 42, 32, 124, 32, 103, 117, 97, 114, 100, 43, 32, 100, 42]⟩ : ByteArray)).size + 1) ⟨#[101, 32, 100, 42, 32, 124, 32, 103, 117, 97, 114, 100, 43, 32, 100, 42]⟩) := by
  rw [spl_e_dS_A_guardP_dS]
  intro p hp
  simp only [List.mem_cons, List.not_mem_nil, or_false] at hp
  rcases hp with rfl | rfl
  · refine ⟨by decide, by decide, ?_⟩
    rw [rem_e_dS_A_guardP_dS0]
    intro q hq
    simp only [List.mem_cons, List.not_mem_nil, or_false] at hq
    rcases hq with rfl | rfl
    · exact part_e
    · exact part_dS
  · refine ⟨by decide, by decide, ?_⟩
    rw [rem_e_dS_A_guardP_dS1]
    intro q hq
    simp only [List.mem_cons, List.not_mem_nil, or_false] at hq
    rcases hq with rfl | rfl
    · exact part_guardP
    · exact part_dS
theorem any_e_dS_A_guardP_dS (L : List Kn) : anyS (splF (((⟨#[101, 32, 100, 42, 32, 124, 32, 103, 117, 97, 114, 100, 43, 32, 100, 42]⟩ : ByteArray)).size + 1) ⟨#[101, 32, 100, 42, 32, 124, 32, 103, 117, 97, 114, 100, 43, 32, 100, 42]⟩) L = (shp cqF [⟨#[101]⟩, ⟨#[100, 42]⟩] L || shp cqF [⟨#[103, 117, 97, 114, 100, 43]⟩, ⟨#[100, 42]⟩] L) := by
  rw [spl_e_dS_A_guardP_dS]
  unfold anyS
  rw [List.any_cons, List.any_cons, List.any_nil, Bool.or_false, rem_e_dS_A_guardP_dS0, rem_e_dS_A_guardP_dS1]

theorem spl_e_e : splF (((⟨#[101, 32, 101]⟩ : ByteArray)).size + 1) ⟨#[101, 32, 101]⟩ = [⟨#[101, 32, 101]⟩] := by kernel_rfl
theorem rem_e_e0 : remF ⟨#[101, 32, 101]⟩ (⟨#[101, 32, 101]⟩ : ByteArray).size 0 none = [⟨#[101]⟩, ⟨#[101]⟩] := by kernel_rfl
theorem good_e_e : Good (splF (((⟨#[101, 32, 101]⟩ : ByteArray)).size + 1) ⟨#[101, 32, 101]⟩) := by
  rw [spl_e_e]
  intro p hp
  simp only [List.mem_cons, List.not_mem_nil, or_false] at hp
  subst hp
  · refine ⟨by decide, by decide, ?_⟩
    rw [rem_e_e0]
    intro q hq
    simp only [List.mem_cons, List.not_mem_nil, or_false] at hq
    rcases hq with rfl | rfl
    · exact part_e
    · exact part_e
theorem any_e_e (L : List Kn) : anyS (splF (((⟨#[101, 32, 101]⟩ : ByteArray)).size + 1) ⟨#[101, 32, 101]⟩) L = (shp cqF [⟨#[101]⟩, ⟨#[101]⟩] L) := by
  rw [spl_e_e]
  unfold anyS
  rw [List.any_cons, List.any_nil, Bool.or_false, rem_e_e0]

theorem spl_e_e_e : splF (((⟨#[101, 32, 101, 32, 101]⟩ : ByteArray)).size + 1) ⟨#[101, 32, 101, 32, 101]⟩ = [⟨#[101, 32, 101, 32, 101]⟩] := by kernel_rfl
theorem rem_e_e_e0 : remF ⟨#[101, 32, 101, 32, 101]⟩ (⟨#[101, 32, 101, 32, 101]⟩ : ByteArray).size 0 none = [⟨#[101]⟩, ⟨#[101]⟩, ⟨#[101]⟩] := by kernel_rfl
theorem good_e_e_e : Good (splF (((⟨#[101, 32, 101, 32, 101]⟩ : ByteArray)).size + 1) ⟨#[101, 32, 101, 32, 101]⟩) := by
  rw [spl_e_e_e]
  intro p hp
  simp only [List.mem_cons, List.not_mem_nil, or_false] at hp
  subst hp
  · refine ⟨by decide, by decide, ?_⟩
    rw [rem_e_e_e0]
    intro q hq
    simp only [List.mem_cons, List.not_mem_nil, or_false] at hq
    rcases hq with rfl | rfl | rfl
    · exact part_e
    · exact part_e
    · exact part_e
theorem any_e_e_e (L : List Kn) : anyS (splF (((⟨#[101, 32, 101, 32, 101]⟩ : ByteArray)).size + 1) ⟨#[101, 32, 101, 32, 101]⟩) L = (shp cqF [⟨#[101]⟩, ⟨#[101]⟩, ⟨#[101]⟩] L) := by
  rw [spl_e_e_e]
  unfold anyS
  rw [List.any_cons, List.any_nil, Bool.or_false, rem_e_e_e0]

theorem spl_e_eP : splF (((⟨#[101, 32, 101, 43]⟩ : ByteArray)).size + 1) ⟨#[101, 32, 101, 43]⟩ = [⟨#[101, 32, 101, 43]⟩] := by kernel_rfl
theorem rem_e_eP0 : remF ⟨#[101, 32, 101, 43]⟩ (⟨#[101, 32, 101, 43]⟩ : ByteArray).size 0 none = [⟨#[101]⟩, ⟨#[101, 43]⟩] := by kernel_rfl
theorem good_e_eP : Good (splF (((⟨#[101, 32, 101, 43]⟩ : ByteArray)).size + 1) ⟨#[101, 32, 101, 43]⟩) := by
  rw [spl_e_eP]
  intro p hp
  simp only [List.mem_cons, List.not_mem_nil, or_false] at hp
  subst hp
  · refine ⟨by decide, by decide, ?_⟩
    rw [rem_e_eP0]
    intro q hq
    simp only [List.mem_cons, List.not_mem_nil, or_false] at hq
    rcases hq with rfl | rfl
    · exact part_e
    · exact part_eP
theorem any_e_eP (L : List Kn) : anyS (splF (((⟨#[101, 32, 101, 43]⟩ : ByteArray)).size + 1) ⟨#[101, 32, 101, 43]⟩) L = (shp cqF [⟨#[101]⟩, ⟨#[101, 43]⟩] L) := by
  rw [spl_e_eP]
  unfold anyS
  rw [List.any_cons, List.any_nil, Bool.or_false, rem_e_eP0]

theorem spl_e_qualP : splF (((⟨#[101, 32, 113, 117, 97, 108, 43]⟩ : ByteArray)).size + 1) ⟨#[101, 32, 113, 117, 97, 108, 43]⟩ = [⟨#[101, 32, 113, 117, 97, 108, 43]⟩] := by kernel_rfl
theorem rem_e_qualP0 : remF ⟨#[101, 32, 113, 117, 97, 108, 43]⟩ (⟨#[101, 32, 113, 117, 97, 108, 43]⟩ : ByteArray).size 0 none = [⟨#[101]⟩, ⟨#[113, 117, 97, 108, 43]⟩] := by kernel_rfl
theorem good_e_qualP : Good (splF (((⟨#[101, 32, 113, 117, 97, 108, 43]⟩ : ByteArray)).size + 1) ⟨#[101, 32, 113, 117, 97, 108, 43]⟩) := by
  rw [spl_e_qualP]
  intro p hp
  simp only [List.mem_cons, List.not_mem_nil, or_false] at hp
  subst hp
  · refine ⟨by decide, by decide, ?_⟩
    rw [rem_e_qualP0]
    intro q hq
    simp only [List.mem_cons, List.not_mem_nil, or_false] at hq
    rcases hq with rfl | rfl
    · exact part_e
    · exact part_qualP
theorem any_e_qualP (L : List Kn) : anyS (splF (((⟨#[101, 32, 113, 117, 97, 108, 43]⟩ : ByteArray)).size + 1) ⟨#[101, 32, 113, 117, 97, 108, 43]⟩) L = (shp cqF [⟨#[101]⟩, ⟨#[113, 117, 97, 108, 43]⟩] L) := by
  rw [spl_e_qualP]
  unfold anyS
  rw [List.any_cons, List.any_nil, Bool.or_false, rem_e_qualP0]

theorem spl_eS : splF (((⟨#[101, 42]⟩ : ByteArray)).size + 1) ⟨#[101, 42]⟩ = [⟨#[101, 42]⟩] := by kernel_rfl
theorem rem_eS0 : remF ⟨#[101, 42]⟩ (⟨#[101, 42]⟩ : ByteArray).size 0 none = [⟨#[101, 42]⟩] := by kernel_rfl
theorem good_eS : Good (splF (((⟨#[101, 42]⟩ : ByteArray)).size + 1) ⟨#[101, 42]⟩) := by
  rw [spl_eS]
  intro p hp
  simp only [List.mem_cons, List.not_mem_nil, or_false] at hp
  subst hp
  · refine ⟨by decide, by decide, ?_⟩
    rw [rem_eS0]
    intro q hq
    simp only [List.mem_cons, List.not_mem_nil, or_false] at hq
    subst hq
    exact part_eS
theorem any_eS (L : List Kn) : anyS (splF (((⟨#[101, 42]⟩ : ByteArray)).size + 1) ⟨#[101, 42]⟩) L = (shp cqF [⟨#[101, 42]⟩] L) := by
  rw [spl_eS]
  unfold anyS
  rw [List.any_cons, List.any_nil, Bool.or_false, rem_eS0]

theorem spl_exports_importS_topS : splF (((⟨#[101, 120, 112, 111, 114, 116, 115, 32, 105, 109, 112, 111, 114, 116, 42, 32, 116, 111, 112, 42]⟩ : ByteArray)).size + 1) ⟨#[101, 120, 112, 111, 114, 116, 115, 32, 105, 109, 112, 111, 114, 116, 42, 32, 116, 111, 112, 42]⟩ = [⟨#[101, 120, 112, 111, 114, 116, 115, 32, 105, 109, 112, 111, 114, 116, 42, 32, 116, 111, 112, 42]⟩] := by kernel_rfl
theorem rem_exports_importS_topS0 : remF ⟨#[101, 120, 112, 111, 114, 116, 115, 32, 105, 109, 112, 111, 114, 116, 42, 32, 116, 111, 112, 42]⟩ (⟨#[101, 120, 112, 111, 114, 116, 115, 32, 105, 109, 112, 111, 114, 116, 42, 32, 116, 111, 112, 42]⟩ : ByteArray).size 0 none = [⟨#[101, 120, 112, 111, 114, 116, 115]⟩, ⟨#[105, 109, 112, 111, 114, 116, 42]⟩, ⟨#[116, 111, 112, 42]⟩] := by kernel_rfl
theorem good_exports_importS_topS : Good (splF (((⟨#[101, 120, 112, 111, 114, 116, 115, 32, 105, 109, 112, 111, 114, 116, 42, 32, 116, 111, 112, 42]⟩ : ByteArray)).size + 1) ⟨#[101, 120, 112, 111, 114, 116, 115, 32, 105, 109, 112, 111, 114, 116, 42, 32, 116, 111, 112, 42]⟩) := by
  rw [spl_exports_importS_topS]
  intro p hp
  simp only [List.mem_cons, List.not_mem_nil, or_false] at hp
  subst hp
  · refine ⟨by decide, by decide, ?_⟩
    rw [rem_exports_importS_topS0]
    intro q hq
    simp only [List.mem_cons, List.not_mem_nil, or_false] at hq
    rcases hq with rfl | rfl | rfl
    · exact part_exports
    · exact part_importS
    · exact part_topS
theorem any_exports_importS_topS (L : List Kn) : anyS (splF (((⟨#[101, 120, 112, 111, 114, 116, 115, 32, 105, 109, 112, 111, 114, 116, 42, 32, 116, 111, 112, 42]⟩ : ByteArray)).size + 1) ⟨#[101, 120, 112, 111, 114, 116, 115, 32, 105, 109, 112, 111, 114, 116, 42, 32, 116, 111, 112, 42]⟩) L = (shp cqF [⟨#[101, 120, 112, 111, 114, 116, 115]⟩, ⟨#[105, 109, 112, 111, 114, 116, 42]⟩, ⟨#[116, 111, 112, 42]⟩] L) := by
  rw [spl_exports_importS_topS]
  unfold anyS
  rw [List.any_cons, List.any_nil, Bool.or_false, rem_exports_importS_topS0]

theorem spl_itemS : splF (((⟨#[105, 116, 101, 109, 42]⟩ : ByteArray)).size + 1) ⟨#[105, 116, 101, 109, 42]⟩ = [⟨#[105, 116, 101, 109, 42]⟩] := by kernel_rfl
theorem rem_itemS0 : remF ⟨#[105, 116, 101, 109, 42]⟩ (⟨#[105, 116, 101, 109, 42]⟩ : ByteArray).size 0 none = [⟨#[105, 116, 101, 109, 42]⟩] := by kernel_rfl
theorem good_itemS : Good (splF (((⟨#[105, 116, 101, 109, 42]⟩ : ByteArray)).size + 1) ⟨#[105, 116, 101, 109, 42]⟩) := by
  rw [spl_itemS]
  intro p hp
  simp only [List.mem_cons, List.not_mem_nil, or_false] at hp
  subst hp
  · refine ⟨by decide, by decide, ?_⟩
    rw [rem_itemS0]
    intro q hq
    simp only [List.mem_cons, List.not_mem_nil, or_false] at hq
    subst hq
    exact part_itemS
theorem any_itemS (L : List Kn) : anyS (splF (((⟨#[105, 116, 101, 109, 42]⟩ : ByteArray)).size + 1) ⟨#[105, 116, 101, 109, 42]⟩) L = (shp cqF [⟨#[105, 116, 101, 109, 42]⟩] L) := by
  rw [spl_itemS]
  unfold anyS
  rw [List.any_cons, List.any_nil, Bool.or_false, rem_itemS0]

theorem spl_level_names : splF (((⟨#[108, 101, 118, 101, 108, 32, 110, 97, 109, 101, 115]⟩ : ByteArray)).size + 1) ⟨#[108, 101, 118, 101, 108, 32, 110, 97, 109, 101, 115]⟩ = [⟨#[108, 101, 118, 101, 108, 32, 110, 97, 109, 101, 115]⟩] := by kernel_rfl
theorem rem_level_names0 : remF ⟨#[108, 101, 118, 101, 108, 32, 110, 97, 109, 101, 115]⟩ (⟨#[108, 101, 118, 101, 108, 32, 110, 97, 109, 101, 115]⟩ : ByteArray).size 0 none = [⟨#[108, 101, 118, 101, 108]⟩, ⟨#[110, 97, 109, 101, 115]⟩] := by kernel_rfl
theorem good_level_names : Good (splF (((⟨#[108, 101, 118, 101, 108, 32, 110, 97, 109, 101, 115]⟩ : ByteArray)).size + 1) ⟨#[108, 101, 118, 101, 108, 32, 110, 97, 109, 101, 115]⟩) := by
  rw [spl_level_names]
  intro p hp
  simp only [List.mem_cons, List.not_mem_nil, or_false] at hp
  subst hp
  · refine ⟨by decide, by decide, ?_⟩
    rw [rem_level_names0]
    intro q hq
    simp only [List.mem_cons, List.not_mem_nil, or_false] at hq
    rcases hq with rfl | rfl
    · exact part_level
    · exact part_names
theorem any_level_names (L : List Kn) : anyS (splF (((⟨#[108, 101, 118, 101, 108, 32, 110, 97, 109, 101, 115]⟩ : ByteArray)).size + 1) ⟨#[108, 101, 118, 101, 108, 32, 110, 97, 109, 101, 115]⟩) L = (shp cqF [⟨#[108, 101, 118, 101, 108]⟩, ⟨#[110, 97, 109, 101, 115]⟩] L) := by
  rw [spl_level_names]
  unfold anyS
  rw [List.any_cons, List.any_nil, Bool.or_false, rem_level_names0]

theorem spl_names_constrP_names : splF (((⟨#[110, 97, 109, 101, 115, 32, 99, 111, 110, 115, 116, 114, 43, 32, 110, 97, 109, 101, 115]⟩ : ByteArray)).size + 1) ⟨#[110, 97, 109, 101, 115, 32, 99, 111, 110, 115, 116, 114, 43, 32, 110, 97, 109, 101, 115]⟩ = [⟨#[110, 97, 109, 101, 115, 32, 99, 111, 110, 115, 116, 114, 43, 32, 110, 97, 109, 101, 115]⟩] := by kernel_rfl
theorem rem_names_constrP_names0 : remF ⟨#[110, 97, 109, 101, 115, 32, 99, 111, 110, 115, 116, 114, 43, 32, 110, 97, 109, 101, 115]⟩ (⟨#[110, 97, 109, 101, 115, 32, 99, 111, 110, 115, 116, 114, 43, 32, 110, 97, 109, 101, 115]⟩ : ByteArray).size 0 none = [⟨#[110, 97, 109, 101, 115]⟩, ⟨#[99, 111, 110, 115, 116, 114, 43]⟩, ⟨#[110, 97, 109, 101, 115]⟩] := by kernel_rfl
theorem good_names_constrP_names : Good (splF (((⟨#[110, 97, 109, 101, 115, 32, 99, 111, 110, 115, 116, 114, 43, 32, 110, 97, 109, 101, 115]⟩ : ByteArray)).size + 1) ⟨#[110, 97, 109, 101, 115, 32, 99, 111, 110, 115, 116, 114, 43, 32, 110, 97, 109, 101, 115]⟩) := by
  rw [spl_names_constrP_names]
  intro p hp
  simp only [List.mem_cons, List.not_mem_nil, or_false] at hp
  subst hp
  · refine ⟨by decide, by decide, ?_⟩
    rw [rem_names_constrP_names0]
    intro q hq
    simp only [List.mem_cons, List.not_mem_nil, or_false] at hq
    rcases hq with rfl | rfl | rfl
    · exact part_names
    · exact part_constrP
    · exact part_names
theorem any_names_constrP_names (L : List Kn) : anyS (splF (((⟨#[110, 97, 109, 101, 115, 32, 99, 111, 110, 115, 116, 114, 43, 32, 110, 97, 109, 101, 115]⟩ : ByteArray)).size + 1) ⟨#[110, 97, 109, 101, 115, 32, 99, 111, 110, 115, 116, 114, 43, 32, 110, 97, 109, 101, 115]⟩) L = (shp cqF [⟨#[110, 97, 109, 101, 115]⟩, ⟨#[99, 111, 110, 115, 116, 114, 43]⟩, ⟨#[110, 97, 109, 101, 115]⟩] L) := by
  rw [spl_names_constrP_names]
  unfold anyS
  rw [List.any_cons, List.any_nil, Bool.or_false, rem_names_constrP_names0]

theorem spl_names_context_t : splF (((⟨#[110, 97, 109, 101, 115, 32, 99, 111, 110, 116, 101, 120, 116, 32, 116]⟩ : ByteArray)).size + 1) ⟨#[110, 97, 109, 101, 115, 32, 99, 111, 110, 116, 101, 120, 116, 32, 116]⟩ = [⟨#[110, 97, 109, 101, 115, 32, 99, 111, 110, 116, 101, 120, 116, 32, 116]⟩] := by kernel_rfl
theorem rem_names_context_t0 : remF ⟨#[110, 97, 109, 101, 115, 32, 99, 111, 110, 116, 101, 120, 116, 32, 116]⟩ (⟨#[110, 97, 109, 101, 115, 32, 99, 111, 110, 116, 101, 120, 116, 32, 116]⟩ : ByteArray).size 0 none = [⟨#[110, 97, 109, 101, 115]⟩, ⟨#[99, 111, 110, 116, 101, 120, 116]⟩, ⟨#[116]⟩] := by kernel_rfl
theorem good_names_context_t : Good (splF (((⟨#[110, 97, 109, 101, 115, 32, 99, 111, 110, 116, 101, 120, 116, 32, 116]⟩ : ByteArray)).size + 1) ⟨#[110, 97, 109, 101, 115, 32, 99, 111, 110, 116, 101, 120, 116, 32, 116]⟩) := by
  rw [spl_names_context_t]
  intro p hp
  simp only [List.mem_cons, List.not_mem_nil, or_false] at hp
  subst hp
  · refine ⟨by decide, by decide, ?_⟩
    rw [rem_names_context_t0]
    intro q hq
    simp only [List.mem_cons, List.not_mem_nil, or_false] at hq
    rcases hq with rfl | rfl | rfl
    · exact part_names
    · exact part_context
    · exact part_t
theorem any_names_context_t (L : List Kn) : anyS (splF (((⟨#[110, 97, 109, 101, 115, 32, 99, 111, 110, 116, 101, 120, 116, 32, 116]⟩ : ByteArray)).size + 1) ⟨#[110, 97, 109, 101, 115, 32, 99, 111, 110, 116, 101, 120, 116, 32, 116]⟩) L = (shp cqF [⟨#[110, 97, 109, 101, 115]⟩, ⟨#[99, 111, 110, 116, 101, 120, 116]⟩, ⟨#[116]⟩] L) := by
  rw [spl_names_context_t]
  unfold anyS
  rw [List.any_cons, List.any_nil, Bool.or_false, rem_names_context_t0]

theorem spl_none : splF (((⟨#[110, 111, 110, 101]⟩ : ByteArray)).size + 1) ⟨#[110, 111, 110, 101]⟩ = [⟨#[110, 111, 110, 101]⟩] := by kernel_rfl
theorem rem_none0 : remF ⟨#[110, 111, 110, 101]⟩ (⟨#[110, 111, 110, 101]⟩ : ByteArray).size 0 none = [⟨#[110, 111, 110, 101]⟩] := by kernel_rfl
theorem good_none : Good (splF (((⟨#[110, 111, 110, 101]⟩ : ByteArray)).size + 1) ⟨#[110, 111, 110, 101]⟩) := by
  rw [spl_none]
  intro p hp
  simp only [List.mem_cons, List.not_mem_nil, or_false] at hp
  subst hp
  · refine ⟨by decide, by decide, ?_⟩
    rw [rem_none0]
    intro q hq
    simp only [List.mem_cons, List.not_mem_nil, or_false] at hq
    subst hq
    exact part_none
theorem any_none (L : List Kn) : anyS (splF (((⟨#[110, 111, 110, 101]⟩ : ByteArray)).size + 1) ⟨#[110, 111, 110, 101]⟩) L = (shp cqF [⟨#[110, 111, 110, 101]⟩] L) := by
  rw [spl_none]
  unfold anyS
  rw [List.any_cons, List.any_nil, Bool.or_false, rem_none0]

theorem spl_p : splF (((⟨#[112]⟩ : ByteArray)).size + 1) ⟨#[112]⟩ = [⟨#[112]⟩] := by kernel_rfl
theorem rem_p0 : remF ⟨#[112]⟩ (⟨#[112]⟩ : ByteArray).size 0 none = [⟨#[112]⟩] := by kernel_rfl
theorem good_p : Good (splF (((⟨#[112]⟩ : ByteArray)).size + 1) ⟨#[112]⟩) := by
  rw [spl_p]
  intro p hp
  simp only [List.mem_cons, List.not_mem_nil, or_false] at hp
  subst hp
  · refine ⟨by decide, by decide, ?_⟩
    rw [rem_p0]
    intro q hq
    simp only [List.mem_cons, List.not_mem_nil, or_false] at hq
    subst hq
    exact part_p
theorem any_p (L : List Kn) : anyS (splF (((⟨#[112]⟩ : ByteArray)).size + 1) ⟨#[112]⟩) L = (shp cqF [⟨#[112]⟩] L) := by
  rw [spl_p]
  unfold anyS
  rw [List.any_cons, List.any_nil, Bool.or_false, rem_p0]

theorem spl_p_e : splF (((⟨#[112, 32, 101]⟩ : ByteArray)).size + 1) ⟨#[112, 32, 101]⟩ = [⟨#[112, 32, 101]⟩] := by kernel_rfl
theorem rem_p_e0 : remF ⟨#[112, 32, 101]⟩ (⟨#[112, 32, 101]⟩ : ByteArray).size 0 none = [⟨#[112]⟩, ⟨#[101]⟩] := by kernel_rfl
theorem good_p_e : Good (splF (((⟨#[112, 32, 101]⟩ : ByteArray)).size + 1) ⟨#[112, 32, 101]⟩) := by
  rw [spl_p_e]
  intro p hp
  simp only [List.mem_cons, List.not_mem_nil, or_false] at hp
  subst hp
  · refine ⟨by decide, by decide, ?_⟩
    rw [rem_p_e0]
    intro q hq
    simp only [List.mem_cons, List.not_mem_nil, or_false] at hq
    rcases hq with rfl | rfl
    · exact part_p
    · exact part_e
theorem any_p_e (L : List Kn) : anyS (splF (((⟨#[112, 32, 101]⟩ : ByteArray)).size + 1) ⟨#[112, 32, 101]⟩) L = (shp cqF [⟨#[112]⟩, ⟨#[101]⟩] L) := by
  rw [spl_p_e]
  unfold anyS
  rw [List.any_cons, List.any_nil, Bool.or_false, rem_p_e0]

theorem spl_p_rhs : splF (((⟨#[112, 32, 114, 104, 115]⟩ : ByteArray)).size + 1) ⟨#[112, 32, 114, 104, 115]⟩ = [⟨#[112, 32, 114, 104, 115]⟩] := by kernel_rfl
theorem rem_p_rhs0 : remF ⟨#[112, 32, 114, 104, 115]⟩ (⟨#[112, 32, 114, 104, 115]⟩ : ByteArray).size 0 none = [⟨#[112]⟩, ⟨#[114, 104, 115]⟩] := by kernel_rfl
theorem good_p_rhs : Good (splF (((⟨#[112, 32, 114, 104, 115]⟩ : ByteArray)).size + 1) ⟨#[112, 32, 114, 104, 115]⟩) := by
  rw [spl_p_rhs]
  intro p hp
  simp only [List.mem_cons, List.not_mem_nil, or_false] at hp
  subst hp
  · refine ⟨by decide, by decide, ?_⟩
    rw [rem_p_rhs0]
    intro q hq
    simp only [List.mem_cons, List.not_mem_nil, or_false] at hq
    rcases hq with rfl | rfl
    · exact part_p
    · exact part_rhs
theorem any_p_rhs (L : List Kn) : anyS (splF (((⟨#[112, 32, 114, 104, 115]⟩ : ByteArray)).size + 1) ⟨#[112, 32, 114, 104, 115]⟩) L = (shp cqF [⟨#[112]⟩, ⟨#[114, 104, 115]⟩] L) := by
  rw [spl_p_rhs]
  unfold anyS
  rw [List.any_cons, List.any_nil, Bool.or_false, rem_p_rhs0]

theorem spl_pS : splF (((⟨#[112, 42]⟩ : ByteArray)).size + 1) ⟨#[112, 42]⟩ = [⟨#[112, 42]⟩] := by kernel_rfl
theorem rem_pS0 : remF ⟨#[112, 42]⟩ (⟨#[112, 42]⟩ : ByteArray).size 0 none = [⟨#[112, 42]⟩] := by kernel_rfl
theorem good_pS : Good (splF (((⟨#[112, 42]⟩ : ByteArray)).size + 1) ⟨#[112, 42]⟩) := by
  rw [spl_pS]
  intro p hp
  simp only [List.mem_cons, List.not_mem_nil, or_false] at hp
  subst hp
  · refine ⟨by decide, by decide, ?_⟩
    rw [rem_pS0]
    intro q hq
    simp only [List.mem_cons, List.not_mem_nil, or_false] at hq
    subst hq
    exact part_pS
theorem any_pS (L : List Kn) : anyS (splF (((⟨#[112, 42]⟩ : ByteArray)).size + 1) ⟨#[112, 42]⟩) L = (shp cqF [⟨#[112, 42]⟩] L) := by
  rw [spl_pS]
  unfold anyS
  rw [List.any_cons, List.any_nil, Bool.or_false, rem_pS0]

theorem spl_pS_rhs : splF (((⟨#[112, 42, 32, 114, 104, 115]⟩ : ByteArray)).size + 1) ⟨#[112, 42, 32, 114, 104, 115]⟩ = [⟨#[112, 42, 32, 114, 104, 115]⟩] := by kernel_rfl
theorem rem_pS_rhs0 : remF ⟨#[112, 42, 32, 114, 104, 115]⟩ (⟨#[112, 42, 32, 114, 104, 115]⟩ : ByteArray).size 0 none = [⟨#[112, 42]⟩, ⟨#[114, 104, 115]⟩] := by kernel_rfl
theorem good_pS_rhs : Good (splF (((⟨#[112, 42, 32, 114, 104, 115]⟩ : ByteArray)).size + 1) ⟨#[112, 42, 32, 114, 104, 115]⟩) := by
  rw [spl_pS_rhs]
  intro p hp
  simp only [List.mem_cons, List.not_mem_nil, or_false] at hp
  subst hp
  · refine ⟨by decide, by decide, ?_⟩
    rw [rem_pS_rhs0]
    intro q hq
    simp only [List.mem_cons, List.not_mem_nil, or_false] at hq
    rcases hq with rfl | rfl
    · exact part_pS
    · exact part_rhs
theorem any_pS_rhs (L : List Kn) : anyS (splF (((⟨#[112, 42, 32, 114, 104, 115]⟩ : ByteArray)).size + 1) ⟨#[112, 42, 32, 114, 104, 115]⟩) L = (shp cqF [⟨#[112, 42]⟩, ⟨#[114, 104, 115]⟩] L) := by
  rw [spl_pS_rhs]
  unfold anyS
  rw [List.any_cons, List.any_nil, Bool.or_false, rem_pS_rhs0]

theorem spl_pP_e : splF (((⟨#[112, 43, 32, 101]⟩ : ByteArray)).size + 1) ⟨#[112, 43, 32, 101]⟩ = [⟨#[112, 43, 32, 101]⟩] := by kernel_rfl
theorem rem_pP_e0 : remF ⟨#[112, 43, 32, 101]⟩ (⟨#[112, 43, 32, 101]⟩ : ByteArray).size 0 none = [⟨#[112, 43]⟩, ⟨#[101]⟩] := by kernel_rfl
theorem good_pP_e : Good (splF (((⟨#[112, 43, 32, 101]⟩ : ByteArray)).size + 1) ⟨#[112, 43, 32, 101]⟩) := by
  rw [spl_pP_e]
  intro p hp
  simp only [List.mem_cons, List.not_mem_nil, or_false] at hp
  subst hp
  · refine ⟨by decide, by decide, ?_⟩
    rw [rem_pP_e0]
    intro q hq
    simp only [List.mem_cons, List.not_mem_nil, or_false] at hq
    rcases hq with rfl | rfl
    · exact part_pP
    · exact part_e
theorem any_pP_e (L : List Kn) : anyS (splF (((⟨#[112, 43, 32, 101]⟩ : ByteArray)).size + 1) ⟨#[112, 43, 32, 101]⟩) L = (shp cqF [⟨#[112, 43]⟩, ⟨#[101]⟩] L) := by
  rw [spl_pP_e]
  unfold anyS
  rw [List.any_cons, List.any_nil, Bool.or_false, rem_pP_e0]

theorem spl_t : splF (((⟨#[116]⟩ : ByteArray)).size + 1) ⟨#[116]⟩ = [⟨#[116]⟩] := by kernel_rfl
theorem rem_t0 : remF ⟨#[116]⟩ (⟨#[116]⟩ : ByteArray).size 0 none = [⟨#[116]⟩] := by kernel_rfl
theorem good_t : Good (splF (((⟨#[116]⟩ : ByteArray)).size + 1) ⟨#[116]⟩) := by
  rw [spl_t]
  intro p hp
  simp only [List.mem_cons, List.not_mem_nil, or_false] at hp
  subst hp
  · refine ⟨by decide, by decide, ?_⟩
    rw [rem_t0]
    intro q hq
    simp only [List.mem_cons, List.not_mem_nil, or_false] at hq
    subst hq
    exact part_t
theorem any_t (L : List Kn) : anyS (splF (((⟨#[116]⟩ : ByteArray)).size + 1) ⟨#[116]⟩) L = (shp cqF [⟨#[116]⟩] L) := by
  rw [spl_t]
  unfold anyS
  rw [List.any_cons, List.any_nil, Bool.or_false, rem_t0]

theorem spl_t_t : splF (((⟨#[116, 32, 116]⟩ : ByteArray)).size + 1) ⟨#[116, 32, 116]⟩ = [⟨#[116, 32, 116]⟩] := by kernel_rfl
theorem rem_t_t0 : remF ⟨#[116, 32, 116]⟩ (⟨#[116, 32, 116]⟩ : ByteArray).size 0 none = [⟨#[116]⟩, ⟨#[116]⟩] := by kernel_rfl
theorem good_t_t : Good (splF (((⟨#[116, 32, 116]⟩ : ByteArray)).size + 1) ⟨#[116, 32, 116]⟩) := by
  rw [spl_t_t]
  intro p hp
  simp only [List.mem_cons, List.not_mem_nil, or_false] at hp
  subst hp
  · refine ⟨by decide, by decide, ?_⟩
    rw [rem_t_t0]
    intro q hq
    simp only [List.mem_cons, List.not_mem_nil, or_false] at hq
    rcases hq with rfl | rfl
    · exact part_t
    · exact part_t
theorem any_t_t (L : List Kn) : anyS (splF (((⟨#[116, 32, 116]⟩ : ByteArray)).size + 1) ⟨#[116, 32, 116]⟩) L = (shp cqF [⟨#[116]⟩, ⟨#[116]⟩] L) := by
  rw [spl_t_t]
  unfold anyS
  rw [List.any_cons, List.any_nil, Bool.or_false, rem_t_t0]

theorem spl_t_tP : splF (((⟨#[116, 32, 116, 43]⟩ : ByteArray)).size + 1) ⟨#[116, 32, 116, 43]⟩ = [⟨#[116, 32, 116, 43]⟩] := by kernel_rfl
theorem rem_t_tP0 : remF ⟨#[116, 32, 116, 43]⟩ (⟨#[116, 32, 116, 43]⟩ : ByteArray).size 0 none = [⟨#[116]⟩, ⟨#[116, 43]⟩] := by kernel_rfl
theorem good_t_tP : Good (splF (((⟨#[116, 32, 116, 43]⟩ : ByteArray)).size + 1) ⟨#[116, 32, 116, 43]⟩) := by
  rw [spl_t_tP]
  intro p hp
  simp only [List.mem_cons, List.not_mem_nil, or_false] at hp
  subst hp
  · refine ⟨by decide, by decide, ?_⟩
    rw [rem_t_tP0]
    intro q hq
    simp only [List.mem_cons, List.not_mem_nil, or_false] at hq
    rcases hq with rfl | rfl
    · exact part_t
    · exact part_tP
theorem any_t_tP (L : List Kn) : anyS (splF (((⟨#[116, 32, 116, 43]⟩ : ByteArray)).size + 1) ⟨#[116, 32, 116, 43]⟩) L = (shp cqF [⟨#[116]⟩, ⟨#[116, 43]⟩] L) := by
  rw [spl_t_tP]
  unfold anyS
  rw [List.any_cons, List.any_nil, Bool.or_false, rem_t_tP0]

theorem spl_tS : splF (((⟨#[116, 42]⟩ : ByteArray)).size + 1) ⟨#[116, 42]⟩ = [⟨#[116, 42]⟩] := by kernel_rfl
theorem rem_tS0 : remF ⟨#[116, 42]⟩ (⟨#[116, 42]⟩ : ByteArray).size 0 none = [⟨#[116, 42]⟩] := by kernel_rfl
theorem good_tS : Good (splF (((⟨#[116, 42]⟩ : ByteArray)).size + 1) ⟨#[116, 42]⟩) := by
  rw [spl_tS]
  intro p hp
  simp only [List.mem_cons, List.not_mem_nil, or_false] at hp
  subst hp
  · refine ⟨by decide, by decide, ?_⟩
    rw [rem_tS0]
    intro q hq
    simp only [List.mem_cons, List.not_mem_nil, or_false] at hq
    subst hq
    exact part_tS
theorem any_tS (L : List Kn) : anyS (splF (((⟨#[116, 42]⟩ : ByteArray)).size + 1) ⟨#[116, 42]⟩) L = (shp cqF [⟨#[116, 42]⟩] L) := by
  rw [spl_tS]
  unfold anyS
  rw [List.any_cons, List.any_nil, Bool.or_false, rem_tS0]

theorem spl_A_e_eP : splF (((⟨#[124, 32, 101, 32, 101, 43]⟩ : ByteArray)).size + 1) ⟨#[124, 32, 101, 32, 101, 43]⟩ = [⟨#[]⟩, ⟨#[32, 101, 32, 101, 43]⟩] := by kernel_rfl
theorem rem_A_e_eP0 : remF ⟨#[]⟩ (⟨#[]⟩ : ByteArray).size 0 none = [] := by kernel_rfl
theorem rem_A_e_eP1 : remF ⟨#[32, 101, 32, 101, 43]⟩ (⟨#[32, 101, 32, 101, 43]⟩ : ByteArray).size 0 none = [⟨#[101]⟩, ⟨#[101, 43]⟩] := by kernel_rfl
theorem good_A_e_eP : Good (splF (((⟨#[124, 32, 101, 32, 101, 43]⟩ : ByteArray)).size + 1) ⟨#[124, 32, 101, 32, 101, 43]⟩) := by
  rw [spl_A_e_eP]
  intro p hp
  simp only [List.mem_cons, List.not_mem_nil, or_false] at hp
  rcases hp with rfl | rfl
  · refine ⟨by decide, by decide, ?_⟩
    rw [rem_A_e_eP0]
    intro q hq
    cases hq
  · refine ⟨by decide, by decide, ?_⟩
    rw [rem_A_e_eP1]
    intro q hq
    simp only [List.mem_cons, List.not_mem_nil, or_false] at hq
    rcases hq with rfl | rfl
    · exact part_e
    · exact part_eP
theorem any_A_e_eP (L : List Kn) : anyS (splF (((⟨#[124, 32, 101, 32, 101, 43]⟩ : ByteArray)).size + 1) ⟨#[124, 32, 101, 32, 101, 43]⟩) L = (shp cqF [] L || shp cqF [⟨#[101]⟩, ⟨#[101, 43]⟩] L) := by
  rw [spl_A_e_eP]
  unfold anyS
  rw [List.any_cons, List.any_cons, List.any_nil, Bool.or_false, rem_A_e_eP0, rem_A_e_eP1]

theorem spl_A_names : splF (((⟨#[124, 32, 110, 97, 109, 101, 115]⟩ : ByteArray)).size + 1) ⟨#[124, 32, 110, 97, 109, 101, 115]⟩ = [⟨#[]⟩, ⟨#[32, 110, 97, 109, 101, 115]⟩] := by kernel_rfl
theorem rem_A_names0 : remF ⟨#[]⟩ (⟨#[]⟩ : ByteArray).size 0 none = [] := by kernel_rfl
theorem rem_A_names1 : remF ⟨#[32, 110, 97, 109, 101, 115]⟩ (⟨#[32, 110, 97, 109, 101, 115]⟩ : ByteArray).size 0 none = [⟨#[110, 97, 109, 101, 115]⟩] := by kernel_rfl
theorem good_A_names : Good (splF (((⟨#[124, 32, 110, 97, 109, 101, 115]⟩ : ByteArray)).size + 1) ⟨#[124, 32, 110, 97, 109, 101, 115]⟩) := by
  rw [spl_A_names]
  intro p hp
  simp only [List.mem_cons, List.not_mem_nil, or_false] at hp
  rcases hp with rfl | rfl
  · refine ⟨by decide, by decide, ?_⟩
    rw [rem_A_names0]
    intro q hq
    cases hq
  · refine ⟨by decide, by decide, ?_⟩
    rw [rem_A_names1]
    intro q hq
    simp only [List.mem_cons, List.not_mem_nil, or_false] at hq
    subst hq
    exact part_names
theorem any_A_names (L : List Kn) : anyS (splF (((⟨#[124, 32, 110, 97, 109, 101, 115]⟩ : ByteArray)).size + 1) ⟨#[124, 32, 110, 97, 109, 101, 115]⟩) L = (shp cqF [] L || shp cqF [⟨#[110, 97, 109, 101, 115]⟩] L) := by
  rw [spl_A_names]
  unfold anyS
  rw [List.any_cons, List.any_cons, List.any_nil, Bool.or_false, rem_A_names0, rem_A_names1]

theorem spl_A_p_pP : splF (((⟨#[124, 32, 112, 32, 112, 43]⟩ : ByteArray)).size + 1) ⟨#[124, 32, 112, 32, 112, 43]⟩ = [⟨#[]⟩, ⟨#[32, 112, 32, 112, 43]⟩] := by kernel_rfl
theorem rem_A_p_pP0 : remF ⟨#[]⟩ (⟨#[]⟩ : ByteArray).size 0 none = [] := by kernel_rfl
theorem rem_A_p_pP1 : remF ⟨#[32, 112, 32, 112, 43]⟩ (⟨#[32, 112, 32, 112, 43]⟩ : ByteArray).size 0 none = [⟨#[112]⟩, ⟨#[112, 43]⟩] := by kernel_rfl
theorem good_A_p_pP : Good (splF (((⟨#[124, 32, 112, 32, 112, 43]⟩ : ByteArray)).size + 1) ⟨#[124, 32, 112, 32, 112, 43]⟩) := by
  rw [spl_A_p_pP]
  intro p hp
  simp only [List.mem_cons, List.not_mem_nil, or_false] at hp
  rcases hp with rfl | rfl
  · refine ⟨by decide, by decide, ?_⟩
    rw [rem_A_p_pP0]
    intro q hq
    cases hq
  · refine ⟨by decide, by decide, ?_⟩
    rw [rem_A_p_pP1]
    intro q hq
    simp only [List.mem_cons, List.not_mem_nil, or_false] at hq
    rcases hq with rfl | rfl
    · exact part_p
    · exact part_pP
theorem any_A_p_pP (L : List Kn) : anyS (splF (((⟨#[124, 32, 112, 32, 112, 43]⟩ : ByteArray)).size + 1) ⟨#[124, 32, 112, 32, 112, 43]⟩) L = (shp cqF [] L || shp cqF [⟨#[112]⟩, ⟨#[112, 43]⟩] L) := by
  rw [spl_A_p_pP]
  unfold anyS
  rw [List.any_cons, List.any_cons, List.any_nil, Bool.or_false, rem_A_p_pP0, rem_A_p_pP1]

theorem spl_A_t_tP : splF (((⟨#[124, 32, 116, 32, 116, 43]⟩ : ByteArray)).size + 1) ⟨#[124, 32, 116, 32, 116, 43]⟩ = [⟨#[]⟩, ⟨#[32, 116, 32, 116, 43]⟩] := by kernel_rfl
theorem rem_A_t_tP0 : remF ⟨#[]⟩ (⟨#[]⟩ : ByteArray).size 0 none = [] := by kernel_rfl
theorem rem_A_t_tP1 : remF ⟨#[32, 116, 32, 116, 43]⟩ (⟨#[32, 116, 32, 116, 43]⟩ : ByteArray).size 0 none = [⟨#[116]⟩, ⟨#[116, 43]⟩] := by kernel_rfl
theorem good_A_t_tP : Good (splF (((⟨#[124, 32, 116, 32, 116, 43]⟩ : ByteArray)).size + 1) ⟨#[124, 32, 116, 32, 116, 43]⟩) := by
  rw [spl_A_t_tP]
  intro p hp
  simp only [List.mem_cons, List.not_mem_nil, or_false] at hp
  rcases hp with rfl | rfl
  · refine ⟨by decide, by decide, ?_⟩
    rw [rem_A_t_tP0]
    intro q hq
    cases hq
  · refine ⟨by decide, by decide, ?_⟩
    rw [rem_A_t_tP1]
    intro q hq
    simp only [List.mem_cons, List.not_mem_nil, or_false] at hq
    rcases hq with rfl | rfl
    · exact part_t
    · exact part_tP
theorem any_A_t_tP (L : List Kn) : anyS (splF (((⟨#[124, 32, 116, 32, 116, 43]⟩ : ByteArray)).size + 1) ⟨#[124, 32, 116, 32, 116, 43]⟩) L = (shp cqF [] L || shp cqF [⟨#[116]⟩, ⟨#[116, 43]⟩] L) := by
  rw [spl_A_t_tP]
  unfold anyS
  rw [List.any_cons, List.any_cons, List.any_nil, Bool.or_false, rem_A_t_tP0, rem_A_t_tP1]

/-- The shapes, kind by kind. -/
def shT : List (Int × ByteArray) := [
  (1, ⟨#[]⟩),
  (2, ⟨#[]⟩),
  (3, ⟨#[]⟩),
  (4, ⟨#[]⟩),
  (5, ⟨#[]⟩),
  (6, ⟨#[101, 32, 101, 43]⟩),
  (7, ⟨#[112, 43, 32, 101]⟩),
  (8, ⟨#[100, 42, 32, 101]⟩),
  (9, ⟨#[101, 32, 101, 32, 101]⟩),
  (10, ⟨#[101, 32, 97, 108, 116, 43]⟩),
  (11, ⟨#[124, 32, 101, 32, 101, 43]⟩),
  (12, ⟨#[101, 42]⟩),
  (13, ⟨#[101, 32, 101]⟩),
  (14, ⟨#[101, 32, 113, 117, 97, 108, 43]⟩),
  (15, ⟨#[101]⟩),
  (16, ⟨#[101]⟩),
  (17, ⟨#[101]⟩),
  (19, ⟨#[112, 32, 114, 104, 115]⟩),
  (20, ⟨#[101, 32, 100, 42, 32, 124, 32, 103, 117, 97, 114, 100, 43, 32, 100, 42]⟩),
  (21, ⟨#[101, 32, 101]⟩),
  (22, ⟨#[112, 32, 101]⟩),
  (23, ⟨#[101]⟩),
  (30, ⟨#[]⟩),
  (31, ⟨#[]⟩),
  (32, ⟨#[112, 42]⟩),
  (33, ⟨#[]⟩),
  (34, ⟨#[]⟩),
  (35, ⟨#[]⟩),
  (36, ⟨#[124, 32, 112, 32, 112, 43]⟩),
  (37, ⟨#[112, 42]⟩),
  (38, ⟨#[112]⟩),
  (39, ⟨#[112]⟩),
  (40, ⟨#[112]⟩),
  (50, ⟨#[]⟩),
  (51, ⟨#[]⟩),
  (52, ⟨#[116, 32, 116, 43]⟩),
  (53, ⟨#[116, 32, 116]⟩),
  (54, ⟨#[124, 32, 116, 32, 116, 43]⟩),
  (55, ⟨#[116]⟩),
  (60, ⟨#[110, 97, 109, 101, 115, 32, 99, 111, 110, 116, 101, 120, 116, 32, 116]⟩),
  (61, ⟨#[112, 42, 32, 114, 104, 115]⟩),
  (62, ⟨#[108, 101, 118, 101, 108, 32, 110, 97, 109, 101, 115]⟩),
  (63, ⟨#[110, 97, 109, 101, 115, 32, 99, 111, 110, 115, 116, 114, 43, 32, 110, 97, 109, 101, 115]⟩),
  (64, ⟨#[116, 42]⟩),
  (65, ⟨#[99, 111, 110, 116, 101, 120, 116, 32, 116, 118, 97, 114, 32, 115, 105, 103, 42]⟩),
  (66, ⟨#[99, 111, 110, 116, 101, 120, 116, 32, 116, 32, 99, 108, 97, 117, 115, 101, 42]⟩),
  (67, ⟨#[124, 32, 110, 97, 109, 101, 115]⟩),
  (68, ⟨#[101, 120, 112, 111, 114, 116, 115, 32, 105, 109, 112, 111, 114, 116, 42, 32, 116, 111, 112, 42]⟩),
  (69, ⟨#[98, 111, 117, 110, 100, 42]⟩),
  (70, ⟨#[105, 116, 101, 109, 42]⟩),
  (71, ⟨#[]⟩)]
def shS (k : Int) : ByteArray := match shT.find? (fun e => e.1 == k) with
  | some e => e.2
  | none => ⟨#[110, 111, 110, 101]⟩

def kidsI (k : Int) (L : List Kn) : Bool :=
  if k = 18 then altB (fun x => eK x.k) (fun x => (x.k == 1 || x.k == 2)) false L && (decide (1 < L.length) && L.length % 2 == 1)
  else if k = 41 then altB (fun x => pK x.k) (fun x => (x.k == 32 && x.ks.len == 0)) false L && (decide (1 < L.length) && L.length % 2 == 1)
  else anyS (splF ((shS k).size + 1) (shS k)) L

set_option maxRecDepth 100000 in
set_option maxHeartbeats 4000000 in
theorem shS_at (k : Int) : (∀ w, Calls Tryz.prog 28 #[.int .i64 k] w fun e w' => e = .returned (.string (shS k)) ∧ w' = w) ∧ (shS k).size ≤ 1000 ∧ Good (splF ((shS k).size + 1) (shS k)) := by
  by_cases n1 : k = 1
  · subst n1; exact ⟨sh1, (by decide : (⟨#[]⟩ : ByteArray).size ≤ 1000), good_nil⟩
  by_cases n2 : k = 2
  · subst n2; exact ⟨sh2, (by decide : (⟨#[]⟩ : ByteArray).size ≤ 1000), good_nil⟩
  by_cases n3 : k = 3
  · subst n3; exact ⟨sh3, (by decide : (⟨#[]⟩ : ByteArray).size ≤ 1000), good_nil⟩
  by_cases n4 : k = 4
  · subst n4; exact ⟨sh4, (by decide : (⟨#[]⟩ : ByteArray).size ≤ 1000), good_nil⟩
  by_cases n5 : k = 5
  · subst n5; exact ⟨sh5, (by decide : (⟨#[]⟩ : ByteArray).size ≤ 1000), good_nil⟩
  by_cases n6 : k = 6
  · subst n6; exact ⟨sh6, (by decide : (⟨#[101, 32, 101, 43]⟩ : ByteArray).size ≤ 1000), good_e_eP⟩
  by_cases n7 : k = 7
  · subst n7; exact ⟨sh7, (by decide : (⟨#[112, 43, 32, 101]⟩ : ByteArray).size ≤ 1000), good_pP_e⟩
  by_cases n8 : k = 8
  · subst n8; exact ⟨sh8, (by decide : (⟨#[100, 42, 32, 101]⟩ : ByteArray).size ≤ 1000), good_dS_e⟩
  by_cases n9 : k = 9
  · subst n9; exact ⟨sh9, (by decide : (⟨#[101, 32, 101, 32, 101]⟩ : ByteArray).size ≤ 1000), good_e_e_e⟩
  by_cases n10 : k = 10
  · subst n10; exact ⟨sh10, (by decide : (⟨#[101, 32, 97, 108, 116, 43]⟩ : ByteArray).size ≤ 1000), good_e_altP⟩
  by_cases n11 : k = 11
  · subst n11; exact ⟨sh11, (by decide : (⟨#[124, 32, 101, 32, 101, 43]⟩ : ByteArray).size ≤ 1000), good_A_e_eP⟩
  by_cases n12 : k = 12
  · subst n12; exact ⟨sh12, (by decide : (⟨#[101, 42]⟩ : ByteArray).size ≤ 1000), good_eS⟩
  by_cases n13 : k = 13
  · subst n13; exact ⟨sh13, (by decide : (⟨#[101, 32, 101]⟩ : ByteArray).size ≤ 1000), good_e_e⟩
  by_cases n14 : k = 14
  · subst n14; exact ⟨sh14, (by decide : (⟨#[101, 32, 113, 117, 97, 108, 43]⟩ : ByteArray).size ≤ 1000), good_e_qualP⟩
  by_cases n15 : k = 15
  · subst n15; exact ⟨sh15, (by decide : (⟨#[101]⟩ : ByteArray).size ≤ 1000), good_e⟩
  by_cases n16 : k = 16
  · subst n16; exact ⟨sh16, (by decide : (⟨#[101]⟩ : ByteArray).size ≤ 1000), good_e⟩
  by_cases n17 : k = 17
  · subst n17; exact ⟨sh17, (by decide : (⟨#[101]⟩ : ByteArray).size ≤ 1000), good_e⟩
  by_cases n19 : k = 19
  · subst n19; exact ⟨sh19, (by decide : (⟨#[112, 32, 114, 104, 115]⟩ : ByteArray).size ≤ 1000), good_p_rhs⟩
  by_cases n20 : k = 20
  · subst n20; exact ⟨sh20, (by decide : (⟨#[101, 32, 100, 42, 32, 124, 32, 103, 117, 97, 114, 100, 43, 32, 100, 42]⟩ : ByteArray).size ≤ 1000), good_e_dS_A_guardP_dS⟩
  by_cases n21 : k = 21
  · subst n21; exact ⟨sh21, (by decide : (⟨#[101, 32, 101]⟩ : ByteArray).size ≤ 1000), good_e_e⟩
  by_cases n22 : k = 22
  · subst n22; exact ⟨sh22, (by decide : (⟨#[112, 32, 101]⟩ : ByteArray).size ≤ 1000), good_p_e⟩
  by_cases n23 : k = 23
  · subst n23; exact ⟨sh23, (by decide : (⟨#[101]⟩ : ByteArray).size ≤ 1000), good_e⟩
  by_cases n30 : k = 30
  · subst n30; exact ⟨sh30, (by decide : (⟨#[]⟩ : ByteArray).size ≤ 1000), good_nil⟩
  by_cases n31 : k = 31
  · subst n31; exact ⟨sh31, (by decide : (⟨#[]⟩ : ByteArray).size ≤ 1000), good_nil⟩
  by_cases n32 : k = 32
  · subst n32; exact ⟨sh32, (by decide : (⟨#[112, 42]⟩ : ByteArray).size ≤ 1000), good_pS⟩
  by_cases n33 : k = 33
  · subst n33; exact ⟨sh33, (by decide : (⟨#[]⟩ : ByteArray).size ≤ 1000), good_nil⟩
  by_cases n34 : k = 34
  · subst n34; exact ⟨sh34, (by decide : (⟨#[]⟩ : ByteArray).size ≤ 1000), good_nil⟩
  by_cases n35 : k = 35
  · subst n35; exact ⟨sh35, (by decide : (⟨#[]⟩ : ByteArray).size ≤ 1000), good_nil⟩
  by_cases n36 : k = 36
  · subst n36; exact ⟨sh36, (by decide : (⟨#[124, 32, 112, 32, 112, 43]⟩ : ByteArray).size ≤ 1000), good_A_p_pP⟩
  by_cases n37 : k = 37
  · subst n37; exact ⟨sh37, (by decide : (⟨#[112, 42]⟩ : ByteArray).size ≤ 1000), good_pS⟩
  by_cases n38 : k = 38
  · subst n38; exact ⟨sh38, (by decide : (⟨#[112]⟩ : ByteArray).size ≤ 1000), good_p⟩
  by_cases n39 : k = 39
  · subst n39; exact ⟨sh39, (by decide : (⟨#[112]⟩ : ByteArray).size ≤ 1000), good_p⟩
  by_cases n40 : k = 40
  · subst n40; exact ⟨sh40, (by decide : (⟨#[112]⟩ : ByteArray).size ≤ 1000), good_p⟩
  by_cases n50 : k = 50
  · subst n50; exact ⟨sh50, (by decide : (⟨#[]⟩ : ByteArray).size ≤ 1000), good_nil⟩
  by_cases n51 : k = 51
  · subst n51; exact ⟨sh51, (by decide : (⟨#[]⟩ : ByteArray).size ≤ 1000), good_nil⟩
  by_cases n52 : k = 52
  · subst n52; exact ⟨sh52, (by decide : (⟨#[116, 32, 116, 43]⟩ : ByteArray).size ≤ 1000), good_t_tP⟩
  by_cases n53 : k = 53
  · subst n53; exact ⟨sh53, (by decide : (⟨#[116, 32, 116]⟩ : ByteArray).size ≤ 1000), good_t_t⟩
  by_cases n54 : k = 54
  · subst n54; exact ⟨sh54, (by decide : (⟨#[124, 32, 116, 32, 116, 43]⟩ : ByteArray).size ≤ 1000), good_A_t_tP⟩
  by_cases n55 : k = 55
  · subst n55; exact ⟨sh55, (by decide : (⟨#[116]⟩ : ByteArray).size ≤ 1000), good_t⟩
  by_cases n60 : k = 60
  · subst n60; exact ⟨sh60, (by decide : (⟨#[110, 97, 109, 101, 115, 32, 99, 111, 110, 116, 101, 120, 116, 32, 116]⟩ : ByteArray).size ≤ 1000), good_names_context_t⟩
  by_cases n61 : k = 61
  · subst n61; exact ⟨sh61, (by decide : (⟨#[112, 42, 32, 114, 104, 115]⟩ : ByteArray).size ≤ 1000), good_pS_rhs⟩
  by_cases n62 : k = 62
  · subst n62; exact ⟨sh62, (by decide : (⟨#[108, 101, 118, 101, 108, 32, 110, 97, 109, 101, 115]⟩ : ByteArray).size ≤ 1000), good_level_names⟩
  by_cases n63 : k = 63
  · subst n63; exact ⟨sh63, (by decide : (⟨#[110, 97, 109, 101, 115, 32, 99, 111, 110, 115, 116, 114, 43, 32, 110, 97, 109, 101, 115]⟩ : ByteArray).size ≤ 1000), good_names_constrP_names⟩
  by_cases n64 : k = 64
  · subst n64; exact ⟨sh64, (by decide : (⟨#[116, 42]⟩ : ByteArray).size ≤ 1000), good_tS⟩
  by_cases n65 : k = 65
  · subst n65; exact ⟨sh65, (by decide : (⟨#[99, 111, 110, 116, 101, 120, 116, 32, 116, 118, 97, 114, 32, 115, 105, 103, 42]⟩ : ByteArray).size ≤ 1000), good_context_tvar_sigS⟩
  by_cases n66 : k = 66
  · subst n66; exact ⟨sh66, (by decide : (⟨#[99, 111, 110, 116, 101, 120, 116, 32, 116, 32, 99, 108, 97, 117, 115, 101, 42]⟩ : ByteArray).size ≤ 1000), good_context_t_clauseS⟩
  by_cases n67 : k = 67
  · subst n67; exact ⟨sh67, (by decide : (⟨#[124, 32, 110, 97, 109, 101, 115]⟩ : ByteArray).size ≤ 1000), good_A_names⟩
  by_cases n68 : k = 68
  · subst n68; exact ⟨sh68, (by decide : (⟨#[101, 120, 112, 111, 114, 116, 115, 32, 105, 109, 112, 111, 114, 116, 42, 32, 116, 111, 112, 42]⟩ : ByteArray).size ≤ 1000), good_exports_importS_topS⟩
  by_cases n69 : k = 69
  · subst n69; exact ⟨sh69, (by decide : (⟨#[98, 111, 117, 110, 100, 42]⟩ : ByteArray).size ≤ 1000), good_boundS⟩
  by_cases n70 : k = 70
  · subst n70; exact ⟨sh70, (by decide : (⟨#[105, 116, 101, 109, 42]⟩ : ByteArray).size ≤ 1000), good_itemS⟩
  by_cases n71 : k = 71
  · subst n71; exact ⟨sh71, (by decide : (⟨#[]⟩ : ByteArray).size ≤ 1000), good_nil⟩
  have h : shT.find? (fun e => e.1 == k) = none := by
    unfold shT
    simp only [List.find?_eq_none, List.mem_cons, List.not_mem_nil, or_false, forall_eq_or_imp, forall_eq, beq_iff_eq]
    exact ⟨Ne.symm n1, Ne.symm n2, Ne.symm n3, Ne.symm n4, Ne.symm n5, Ne.symm n6, Ne.symm n7, Ne.symm n8, Ne.symm n9, Ne.symm n10, Ne.symm n11, Ne.symm n12, Ne.symm n13, Ne.symm n14, Ne.symm n15, Ne.symm n16, Ne.symm n17, Ne.symm n19, Ne.symm n20, Ne.symm n21, Ne.symm n22, Ne.symm n23, Ne.symm n30, Ne.symm n31, Ne.symm n32, Ne.symm n33, Ne.symm n34, Ne.symm n35, Ne.symm n36, Ne.symm n37, Ne.symm n38, Ne.symm n39, Ne.symm n40, Ne.symm n50, Ne.symm n51, Ne.symm n52, Ne.symm n53, Ne.symm n54, Ne.symm n55, Ne.symm n60, Ne.symm n61, Ne.symm n62, Ne.symm n63, Ne.symm n64, Ne.symm n65, Ne.symm n66, Ne.symm n67, Ne.symm n68, Ne.symm n69, Ne.symm n70, Ne.symm n71⟩
  have e : shS k = ⟨#[110, 111, 110, 101]⟩ := by unfold shS; rw [h]
  rw [e]
  exact ⟨fun w => shElse k w n1 n2 n3 n4 n5 n6 n7 n8 n9 n10 n11 n12 n13 n14 n15 n16 n17 n19 n20 n21 n22 n23 n30 n31 n32 n33 n34 n35 n36 n37 n38 n39 n40 n50 n51 n52 n53 n54 n55 n60 n61 n62 n63 n64 n65 n66 n67 n68 n69 n70 n71, by decide, good_none⟩

theorem kidsI1 (L : List Kn) : kidsI 1 L = (shp cqF [] L) := any_nil L
theorem kidsI2 (L : List Kn) : kidsI 2 L = (shp cqF [] L) := any_nil L
theorem kidsI3 (L : List Kn) : kidsI 3 L = (shp cqF [] L) := any_nil L
theorem kidsI4 (L : List Kn) : kidsI 4 L = (shp cqF [] L) := any_nil L
theorem kidsI5 (L : List Kn) : kidsI 5 L = (shp cqF [] L) := any_nil L
theorem kidsI6 (L : List Kn) : kidsI 6 L = (shp cqF [⟨#[101]⟩, ⟨#[101, 43]⟩] L) := any_e_eP L
theorem kidsI7 (L : List Kn) : kidsI 7 L = (shp cqF [⟨#[112, 43]⟩, ⟨#[101]⟩] L) := any_pP_e L
theorem kidsI8 (L : List Kn) : kidsI 8 L = (shp cqF [⟨#[100, 42]⟩, ⟨#[101]⟩] L) := any_dS_e L
theorem kidsI9 (L : List Kn) : kidsI 9 L = (shp cqF [⟨#[101]⟩, ⟨#[101]⟩, ⟨#[101]⟩] L) := any_e_e_e L
theorem kidsI10 (L : List Kn) : kidsI 10 L = (shp cqF [⟨#[101]⟩, ⟨#[97, 108, 116, 43]⟩] L) := any_e_altP L
theorem kidsI11 (L : List Kn) : kidsI 11 L = (shp cqF [] L || shp cqF [⟨#[101]⟩, ⟨#[101, 43]⟩] L) := any_A_e_eP L
theorem kidsI12 (L : List Kn) : kidsI 12 L = (shp cqF [⟨#[101, 42]⟩] L) := any_eS L
theorem kidsI13 (L : List Kn) : kidsI 13 L = (shp cqF [⟨#[101]⟩, ⟨#[101]⟩] L) := any_e_e L
theorem kidsI14 (L : List Kn) : kidsI 14 L = (shp cqF [⟨#[101]⟩, ⟨#[113, 117, 97, 108, 43]⟩] L) := any_e_qualP L
theorem kidsI15 (L : List Kn) : kidsI 15 L = (shp cqF [⟨#[101]⟩] L) := any_e L
theorem kidsI16 (L : List Kn) : kidsI 16 L = (shp cqF [⟨#[101]⟩] L) := any_e L
theorem kidsI17 (L : List Kn) : kidsI 17 L = (shp cqF [⟨#[101]⟩] L) := any_e L
theorem kidsI19 (L : List Kn) : kidsI 19 L = (shp cqF [⟨#[112]⟩, ⟨#[114, 104, 115]⟩] L) := any_p_rhs L
theorem kidsI20 (L : List Kn) : kidsI 20 L = (shp cqF [⟨#[101]⟩, ⟨#[100, 42]⟩] L || shp cqF [⟨#[103, 117, 97, 114, 100, 43]⟩, ⟨#[100, 42]⟩] L) := any_e_dS_A_guardP_dS L
theorem kidsI21 (L : List Kn) : kidsI 21 L = (shp cqF [⟨#[101]⟩, ⟨#[101]⟩] L) := any_e_e L
theorem kidsI22 (L : List Kn) : kidsI 22 L = (shp cqF [⟨#[112]⟩, ⟨#[101]⟩] L) := any_p_e L
theorem kidsI23 (L : List Kn) : kidsI 23 L = (shp cqF [⟨#[101]⟩] L) := any_e L
theorem kidsI30 (L : List Kn) : kidsI 30 L = (shp cqF [] L) := any_nil L
theorem kidsI31 (L : List Kn) : kidsI 31 L = (shp cqF [] L) := any_nil L
theorem kidsI32 (L : List Kn) : kidsI 32 L = (shp cqF [⟨#[112, 42]⟩] L) := any_pS L
theorem kidsI33 (L : List Kn) : kidsI 33 L = (shp cqF [] L) := any_nil L
theorem kidsI34 (L : List Kn) : kidsI 34 L = (shp cqF [] L) := any_nil L
theorem kidsI35 (L : List Kn) : kidsI 35 L = (shp cqF [] L) := any_nil L
theorem kidsI36 (L : List Kn) : kidsI 36 L = (shp cqF [] L || shp cqF [⟨#[112]⟩, ⟨#[112, 43]⟩] L) := any_A_p_pP L
theorem kidsI37 (L : List Kn) : kidsI 37 L = (shp cqF [⟨#[112, 42]⟩] L) := any_pS L
theorem kidsI38 (L : List Kn) : kidsI 38 L = (shp cqF [⟨#[112]⟩] L) := any_p L
theorem kidsI39 (L : List Kn) : kidsI 39 L = (shp cqF [⟨#[112]⟩] L) := any_p L
theorem kidsI40 (L : List Kn) : kidsI 40 L = (shp cqF [⟨#[112]⟩] L) := any_p L
theorem kidsI50 (L : List Kn) : kidsI 50 L = (shp cqF [] L) := any_nil L
theorem kidsI51 (L : List Kn) : kidsI 51 L = (shp cqF [] L) := any_nil L
theorem kidsI52 (L : List Kn) : kidsI 52 L = (shp cqF [⟨#[116]⟩, ⟨#[116, 43]⟩] L) := any_t_tP L
theorem kidsI53 (L : List Kn) : kidsI 53 L = (shp cqF [⟨#[116]⟩, ⟨#[116]⟩] L) := any_t_t L
theorem kidsI54 (L : List Kn) : kidsI 54 L = (shp cqF [] L || shp cqF [⟨#[116]⟩, ⟨#[116, 43]⟩] L) := any_A_t_tP L
theorem kidsI55 (L : List Kn) : kidsI 55 L = (shp cqF [⟨#[116]⟩] L) := any_t L
theorem kidsI60 (L : List Kn) : kidsI 60 L = (shp cqF [⟨#[110, 97, 109, 101, 115]⟩, ⟨#[99, 111, 110, 116, 101, 120, 116]⟩, ⟨#[116]⟩] L) := any_names_context_t L
theorem kidsI61 (L : List Kn) : kidsI 61 L = (shp cqF [⟨#[112, 42]⟩, ⟨#[114, 104, 115]⟩] L) := any_pS_rhs L
theorem kidsI62 (L : List Kn) : kidsI 62 L = (shp cqF [⟨#[108, 101, 118, 101, 108]⟩, ⟨#[110, 97, 109, 101, 115]⟩] L) := any_level_names L
theorem kidsI63 (L : List Kn) : kidsI 63 L = (shp cqF [⟨#[110, 97, 109, 101, 115]⟩, ⟨#[99, 111, 110, 115, 116, 114, 43]⟩, ⟨#[110, 97, 109, 101, 115]⟩] L) := any_names_constrP_names L
theorem kidsI64 (L : List Kn) : kidsI 64 L = (shp cqF [⟨#[116, 42]⟩] L) := any_tS L
theorem kidsI65 (L : List Kn) : kidsI 65 L = (shp cqF [⟨#[99, 111, 110, 116, 101, 120, 116]⟩, ⟨#[116, 118, 97, 114]⟩, ⟨#[115, 105, 103, 42]⟩] L) := any_context_tvar_sigS L
theorem kidsI66 (L : List Kn) : kidsI 66 L = (shp cqF [⟨#[99, 111, 110, 116, 101, 120, 116]⟩, ⟨#[116]⟩, ⟨#[99, 108, 97, 117, 115, 101, 42]⟩] L) := any_context_t_clauseS L
theorem kidsI67 (L : List Kn) : kidsI 67 L = (shp cqF [] L || shp cqF [⟨#[110, 97, 109, 101, 115]⟩] L) := any_A_names L
theorem kidsI68 (L : List Kn) : kidsI 68 L = (shp cqF [⟨#[101, 120, 112, 111, 114, 116, 115]⟩, ⟨#[105, 109, 112, 111, 114, 116, 42]⟩, ⟨#[116, 111, 112, 42]⟩] L) := any_exports_importS_topS L
theorem kidsI69 (L : List Kn) : kidsI 69 L = (shp cqF [⟨#[98, 111, 117, 110, 100, 42]⟩] L) := any_boundS L
theorem kidsI70 (L : List Kn) : kidsI 70 L = (shp cqF [⟨#[105, 116, 101, 109, 42]⟩] L) := any_itemS L
theorem kidsI71 (L : List Kn) : kidsI 71 L = (shp cqF [] L) := any_nil L
theorem kidsI18 (L : List Kn) : kidsI 18 L = (altB (fun x => eK x.k) (fun x => (x.k == 1 || x.k == 2)) false L && (decide (1 < L.length) && L.length % 2 == 1)) := rfl
theorem kidsI41 (L : List Kn) : kidsI 41 L = (altB (fun x => pK x.k) (fun x => (x.k == 32 && x.ks.len == 0)) false L && (decide (1 < L.length) && L.length % 2 == 1)) := rfl

set_option maxRecDepth 100000 in
set_option maxHeartbeats 2000000 in
theorem iKids18 (nm : ByteArray) (a : Option Addr) (m cap : Nat) (L : List Kn) (w : World) (hl : L.length = m) (hmc : m ≤ cap) (hcm : cap ≤ maxLen) (hk : Kids w w.heap.size a L) :
    Calls Tryz.prog 17 #[.agg #[.int .i64 18, .string nm, .slice a m cap]] w fun e W' => e = .returned (.bool (kidsI 18 L)) ∧ Below w.heap.size w W' := by
  rw [kidsI18]
  have HC : Hid (∀ wx, Below w.heap.size w wx → Calls Tryz.prog 26 #[.slice a m cap, .string ⟨#[101]⟩, .string ⟨#[111, 112, 101, 114]⟩] wx fun e W' => e = .returned (.bool (altB _ _ false L && (decide (1 < L.length) && L.length % 2 == 1))) ∧ Below wx.heap.size wx W') := fun wx hb => by
    have h := iTurns ⟨#[101]⟩ ⟨#[111, 112, 101, 114]⟩ _ _ cls_e cls_oper a m cap L wx hl (by omega) (hk.at hb)
    rw [← hl] at h ⊢
    exact h
  have q1 := Box3.new w (.int .i64 18) (.string nm) (.slice a m cap) 29
  have hB0 : Below w.heap.size w (w.alloc (.cells #[.int .i64 18, .string nm, .slice a m cap] 29)) := below_alloc1 _ _
  generalize (altB _ _ false L && (decide (1 < L.length) && L.length % 2 == 1)) = T at *
  obtain ⟨A, hA⟩ : ∃ A, w.alloc (.cells #[.int .i64 18, .string nm, .slice a m cap] 29) = A := ⟨_, rfl⟩
  rw [hA] at q1 hB0
  have zA : A.heap.size = w.heap.size + 1 := by rw [← hA]; simp
  obtain ⟨B, hB⟩ : ∃ B, A.alloc (.cells #[.bool false] 4) = B := ⟨_, rfl⟩
  have bB : Below A.heap.size A B := by rw [← hB]; exact below_alloc1 _ _
  have hB1 : Below w.heap.size w B := hB0.trans (bB.mono hB0.size)
  have hq : Box3 B w.heap.size (.int .i64 18) (.string nm) (.slice a m cap) := q1.below bB (by omega)
  have hr : Hold w (w.heap.size + 1) (.bool false) (fun _ => False) B := by
    refine ⟨?_, ?_, fun z => z, hB1, fun _ z => z.elim⟩ <;> rw [← hB, ← zA] <;> simp
  have HC' := hide (HC.out B hB1)
  clear q1 hB0 bB HC hk hl
  obtain ⟨-, d0, d1, d2, -, -, -⟩ := id hq
  go_enter Tryz.func17, Tryz.ntmps17
  go_wp2_with fail
  refine HC'.out.mono ?_
  rintro e w1 ⟨rfl, b1⟩
  have r1 := hr.next b1
  have y4 := r1.1
  have y5 := r1.2.1
  go_wp2_with fail
  have hset := r1.set (.bool T) (by omega)
  refine ⟨by simp, .bool T, by simp [results, Tryz.results17, go_sem, hset.1], rfl, hset.2.2.2.1⟩

set_option maxRecDepth 100000 in
set_option maxHeartbeats 2000000 in
theorem iKids41 (nm : ByteArray) (a : Option Addr) (m cap : Nat) (L : List Kn) (w : World) (hl : L.length = m) (hmc : m ≤ cap) (hcm : cap ≤ maxLen) (hk : Kids w w.heap.size a L) :
    Calls Tryz.prog 17 #[.agg #[.int .i64 41, .string nm, .slice a m cap]] w fun e W' => e = .returned (.bool (kidsI 41 L)) ∧ Below w.heap.size w W' := by
  rw [kidsI41]
  have HC : Hid (∀ wx, Below w.heap.size w wx → Calls Tryz.prog 26 #[.slice a m cap, .string ⟨#[112]⟩, .string ⟨#[112, 111, 112]⟩] wx fun e W' => e = .returned (.bool (altB _ _ false L && (decide (1 < L.length) && L.length % 2 == 1))) ∧ Below wx.heap.size wx W') := fun wx hb => by
    have h := iTurns ⟨#[112]⟩ ⟨#[112, 111, 112]⟩ _ _ cls_p cls_pop a m cap L wx hl (by omega) (hk.at hb)
    rw [← hl] at h ⊢
    exact h
  have q1 := Box3.new w (.int .i64 41) (.string nm) (.slice a m cap) 29
  have hB0 : Below w.heap.size w (w.alloc (.cells #[.int .i64 41, .string nm, .slice a m cap] 29)) := below_alloc1 _ _
  generalize (altB _ _ false L && (decide (1 < L.length) && L.length % 2 == 1)) = T at *
  obtain ⟨A, hA⟩ : ∃ A, w.alloc (.cells #[.int .i64 41, .string nm, .slice a m cap] 29) = A := ⟨_, rfl⟩
  rw [hA] at q1 hB0
  have zA : A.heap.size = w.heap.size + 1 := by rw [← hA]; simp
  obtain ⟨B, hB⟩ : ∃ B, A.alloc (.cells #[.bool false] 4) = B := ⟨_, rfl⟩
  have bB : Below A.heap.size A B := by rw [← hB]; exact below_alloc1 _ _
  have hB1 : Below w.heap.size w B := hB0.trans (bB.mono hB0.size)
  have hq : Box3 B w.heap.size (.int .i64 41) (.string nm) (.slice a m cap) := q1.below bB (by omega)
  have hr : Hold w (w.heap.size + 1) (.bool false) (fun _ => False) B := by
    refine ⟨?_, ?_, fun z => z, hB1, fun _ z => z.elim⟩ <;> rw [← hB, ← zA] <;> simp
  have HC' := hide (HC.out B hB1)
  clear q1 hB0 bB HC hk hl
  obtain ⟨-, d0, d1, d2, -, -, -⟩ := id hq
  go_enter Tryz.func17, Tryz.ntmps17
  go_wp2_with fail
  refine HC'.out.mono ?_
  rintro e w1 ⟨rfl, b1⟩
  have r1 := hr.next b1
  have y4 := r1.1
  have y5 := r1.2.1
  go_wp2_with fail
  have hset := r1.set (.bool T) (by omega)
  refine ⟨by simp, .bool T, by simp [results, Tryz.results17, go_sem, hset.1], rfl, hset.2.2.2.1⟩

theorem iKids (n : Nat) (hn : 6 ≤ n) (k : Int) (nm : ByteArray) (a : Option Addr) (m cap : Nat) (L : List Kn) (w : World) (hl : L.length = m) (hmc : m ≤ cap) (hcm : cap ≤ maxLen) (hk : Kids w w.heap.size a L) (htb : TbAt w) :
    CallsIn Fence.wide n Tryz.prog 17 #[.agg #[.int .i64 k, .string nm, .slice a m cap]] w fun e W' => e = .returned (.bool (kidsI k L)) ∧ Below w.heap.size w W' := by
  by_cases h18 : k = 18
  · subst h18
    exact callsIn_wide.2 (iKids18 nm a m cap L w hl hmc hcm hk)
  by_cases h41 : k = 41
  · subst h41
    exact callsIn_wide.2 (iKids41 nm a m cap L w hl hmc hcm hk)
  obtain ⟨h1, h2, h3⟩ := shS_at k
  have h := ikids_in n hn (shS k) k nm a m cap L w h18 h41 h1 hl hmc hcm hk htb h2 h3
  have e : kidsI k L = anyS (splF ((shS k).size + 1) (shS k)) L := by
    unfold kidsI
    rw [if_neg h18, if_neg h41]
  rw [e]
  exact h

end Go.Proofs.YtjfoagmenehapaaGreatDoor.Tree

