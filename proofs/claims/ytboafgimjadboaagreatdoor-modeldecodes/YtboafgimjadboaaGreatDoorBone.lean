/- New turns lie flat; what Count and Flat tell of all vertices. The least model; what bytes tell: plain mathematics. -/
import Derived.Test.YtboafgimjadboaaGreatDoorBcount
import Derived.Test.YtboafgimjadboaaGreatDoorBep
namespace Go.Proofs.YtboafgimjadboaaGreatDoor
open Go.RowKit
set_option linter.unusedVariables false

abbrev R00 : Nat → List Nat := fun _ => []
theorem no00 (V d : Nat) : ¬ In V R00 d := by rintro ⟨v, _, hm⟩; simp at hm
theorem es_new (V E : Nat) : es V R00 E = [] := by
  unfold es
  exact List.filter_eq_nil_iff.2 (fun e _ => by simpa using no00 V (2 * e))
theorem lb_new (V E : Nat) : lb V E R00 = fun x => x := by unfold lb; rw [es_new]; rfl
theorem cc_new (V E : Nat) : cc V E R00 = V := by
  unfold cc
  rw [lb_new, fix_countP]
  simp
theorem fcs_new (V n : Nat) : fcs V R00 n = [] := by
  refine List.eq_nil_iff_forall_not_mem.2 (fun c hc => ?_)
  obtain ⟨z, _, hi, _⟩ := mem_fcs.1 hc
  exact no00 V z hi
theorem iso_new (V : Nat) : iso R00 V = V := by unfold iso; simp
theorem xi_new (V E : Nat) : Xi V E R00 = 0 := by
  unfold Xi
  rw [es_new, fcs_new, iso_new, cc_new]
  simp
  omega

section
variable {w : World} {lo tb V E : Nat} {R : Nat → List Nat}



end
end Go.Proofs.YtboafgimjadboaaGreatDoor

namespace Go.Proofs.YtboafgimjadboaaGreatDoor
set_option linter.unusedVariables false

theorem lv_nil (i : Nat) : ¬ Lv [] i := by unfold Lv; simp
def m01 : Mo := ⟨1, [], [], []⟩
theorem rm01 : Rm m01 = R00 := by
  funext v
  unfold Rm
  rw [if_neg (by show ¬ v < 0; omega)]
theorem may01 : May m01 := by
  have hf : FairI 1 [] := ⟨1, rfl, by omega, by omega, ⟨by simp, fun i p h => by simp at h, fun i p h => by simp at h⟩⟩
  refine ⟨hf, hf, ⟨rfl, fun e x hx => by simp [m01] at hx⟩, ⟨⟨fun i hi => absurd hi (by show ¬ i < 0; omega), fun a b ha => absurd ha (by show ¬ a < 0; omega)⟩, fun d d' hd => absurd hd (lv_nil _)⟩, ?_⟩
  rw [rm01]
  exact xi_new _ _
theorem rn01 : Rn m01 := may01.rn (fun x hx => by simp [m01] at hx)
theorem enc01 : enc m01 = [0, 0, 0, 1, 0, 0, 0, 0, 0, 0, 0, 0] := by decide +kernel
theorem is01 : Is [0, 0, 0, 1, 0, 0, 0, 0, 0, 0, 0, 0] m01 := ⟨rn01, may01, enc01⟩

/-- One list of bytes is one model's. -/
theorem Is.one {b : List UInt8} {m m' : Mo} (h : Is b m) (h' : Is b m') : m = m' := by
  refine (enc_pre h.1 h'.1 (t := []) ?_).1
  rw [h.2.2, h'.2.2, List.append_nil]

theorem Is.more {b : List UInt8} {m : Mo} (h : Is b m) (u : UInt8) (m' : Mo) : ¬ Is (b ++ [u]) m' := fun h' => by
  have e := (enc_pre h.1 h'.1 (t := [u]) (by rw [h.2.2, h'.2.2])).2
  cases e

theorem enc_len (m : Mo) : 12 ≤ (enc m).length ∧ (enc m).length ≤ 12 + 5 * m.vs.length + 25 * m.es.length := by
  have h1 := fm_len (fun p => Nat.le_of_eq (encP_len p)) m.vs
  have h2 := fm_len encE_le (m.es.zip m.l)
  have h3 : (m.es.zip m.l).length ≤ m.es.length := by rw [List.length_zip]; omega
  have h4 : 25 * (m.es.zip m.l).length ≤ 25 * m.es.length := Nat.mul_le_mul_left _ h3
  unfold enc
  simp only [List.length_append, Wi.be_length]
  omega

end Go.Proofs.YtboafgimjadboaaGreatDoor
