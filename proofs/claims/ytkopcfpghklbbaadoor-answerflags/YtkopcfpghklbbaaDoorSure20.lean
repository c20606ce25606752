/- What must come whatever the input is. -/
import Derived.Test.YtkopcfpghklbbaaDoorEncode20
import Derived.Test.YtkopcfpghklbbaaDoorNumber
namespace Go.Proofs.YtkopcfpghklbbaaDoor
open Go.RowKit
set_option linter.unusedVariables false

/-- An answer that has nothing but what is told by value: no slices. -/
theorem AV.plain (w : World) (x : An) (h1 : x.hs = []) (h2 : x.ds = []) (h3 : x.d = []) (hw : Wn x) (h6 : W64 x) : AV w x none 0 0 none 0 0 none 0 0 :=
  ⟨by rw [h1]; exact HV.nil w, by rw [h2]; exact DV.nil w, by rw [h3]; rfl, by rw [h3]; exact Bytes.none w, by omega, by omega, hw, h6⟩

/-- An answer that tells whether something is. -/
def xi (v : Bool) : An := ⟨0, [], v, 0, [], 0, 0, 0, 0, 0, []⟩
theorem xi_av (v : Bool) (w : World) : AV w (xi v) none 0 0 none 0 0 none 0 0 :=
  AV.plain w (xi v) rfl rfl rfl ⟨fun y hy => by simp [xi] at hy, fun y hy => by simp [xi] at hy, by simp [xi], by simp [xi]⟩ ⟨by simp [xi], by simp [xi], by simp [xi], by simp [xi], by simp [xi], by simp [xi]⟩
theorem xi_may {k : Int} (v : Bool) (g : k = 6 ∨ k = 7 ∨ k = 8 ∨ k = 12) : chk20 k (xi v) = 0 := by
  unfold chk20
  rw [if_neg (by omega), if_pos]
  refine .inr ⟨rfl, by omega, ?_, .inr ((flg_iff k).2 g), .inl rfl, .inl rfl, .inl (by omega), .inl ⟨rfl, rfl, rfl, rfl⟩, .inl rfl, .inl rfl, ⟨by simp [xi], by simp [xi]⟩, by simp [xi], by simp [xi], ⟨⟨by simp [xi], by simp [xi]⟩, ⟨by simp [xi], by simp [xi]⟩, ⟨by simp [xi], by simp [xi]⟩, by simp [xi], by simp [xi]⟩, fun y hy => by simp [xi] at hy⟩
  unfold hnd
  rw [if_neg (by omega), if_neg (by omega)]
  rfl
theorem xi_txt {k : Int} (v : Bool) (g : k = 6 ∨ k = 7 ∨ k = 8 ∨ k = 12) : txt20 k (xi v) = yn v := by
  have f := (flg_iff k).2 g
  have n9 : ¬ k = 9 := by omega
  have n11 : ¬ k = 11 := by omega
  have n13 : ¬ k = 13 := by omega
  unfold txt20 wds
  simp [xi, f, n9, n11, n13, jw_one, yn_ne]
theorem xi_enc {k : Int} (v : Bool) (g : k = 6 ∨ k = 7 ∨ k = 8 ∨ k = 12) : enc20 k (xi v) = be 1 0 ++ be 1 (if v then 1 else 0) := by
  have f := (flg_iff k).2 g
  have n9 : ¬ k = 9 := by omega
  have n10 : ¬ k = 10 := by omega
  have n11 : ¬ k = 11 := by omega
  have n13 : ¬ k = 13 := by omega
  unfold enc20 encB
  simp [xi, f, n9, n10, n11, n13]
  cases v <;> rfl

/-- Bytes as a string. -/
theorem string_at {w : World} {ad : Option Addr} {cap n : Nat} {l : List UInt8} (h : Bytes w ad cap l) (hn : n = l.length) :
    (convert 25 9 (.slice ad n cap)).run Tryd.prog w = .ok (.string ⟨l.toArray⟩) w := by
  subst hn
  cases ad with
  | none =>
    have h1 := h.nil rfl
    have h2 := h.le
    have h3 : l = [] := List.eq_nil_of_length_eq_zero (by omega)
    subst h3
    exact run_convert_bytes_nil w 25 5 Tryd.underlying25 Tryd.underlying5 _ _ 9 Tryd.underlying9
  | some a =>
    refine run_convert_bytes_back w 25 9 5 a cap l Tryd.underlying25 Tryd.underlying5 Tryd.underlying9 ?_
    intro j hj
    exact h.cell a rfl j _ (by simp [bc, hj])

set_option maxRecDepth 100000 in
set_option maxHeartbeats 4000000 in
theorem sure_ok {w : World} (ht : Tab w.heap.size w) : Calls Tryd.prog 8 #[] w fun e w' => e = .returned (.bool true) ∧ Below w.heap.size w w' := by
  have he := hid (encode_ok (k := 6) (xi_av true w))
  have htx : Hid (∀ w1, Below w.heap.size w w1 → Calls Tryd.prog 11 #[.int .i64 6, av (xi true) (.slice none 0 0) (.slice none 0 0) (.slice none 0 0)] w1 fun e w' => e = .returned (tres 6 (xi true)) ∧ Below w1.heap.size w1 w') := fun w1 q => text_ok (xi_av true w1) ((ht.more q).up q.size)
  have ht2 : Hid (tres 6 (xi true) = .tuple #[.string ⟨#[121, 101, 115]⟩, .nilIface]) := by
    show _ = _
    unfold tres
    rw [xi_may true (by omega), if_pos rfl, xi_txt true (by omega)]
    rfl
  go_enter Tryd.func8, Tryd.ntmps8
  go_wp2_with fail
  refine he.out.mono ?_
  rintro e w1 ⟨he1, b1⟩
  obtain ⟨ad, cap, rfl, hby⟩ : ∃ ad cap, e = .returned (.tuple #[.slice ad 2 cap, .nilIface]) ∧ Bytes w1 ad cap [0, 1] := by
    rcases he1 with ⟨_, ad, cap, h1, h2⟩ | ⟨h0, _⟩
    · rw [xi_enc true (by omega)] at h1 h2
      exact ⟨ad, cap, h1, h2⟩
    · exact absurd (xi_may true (by omega)) h0
  clear he1
  replace hby := hid hby
  go_wp2_with fail
  refine (htx.out _ b1).mono ?_
  rintro e w2 ⟨rfl, b2⟩
  rw [ht2.out]
  have hs := string_at (hby.out.below b2) (n := 2) rfl
  have hfin := hid (b1.trans (b2.mono b1.size))
  clear b1 b2 he htx
  go_wp2_with fail
  go_ret
  exact ⟨rfl, hfin.out⟩

end Go.Proofs.YtkopcfpghklbbaaDoor
