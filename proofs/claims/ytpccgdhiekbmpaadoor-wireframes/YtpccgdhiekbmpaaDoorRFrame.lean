/- What the document's answers 'plaitref01.Frame' and 'plaitref01.Cut' give. -/
import Derived.Test.YtpccgdhiekbmpaaDoorRPut
import Derived.Test.YtpccgdhiekbmpaaDoorRTake
namespace Go.Proofs.YtpccgdhiekbmpaaDoor
open Go.RowKit
set_option linter.unusedVariables false
attribute [local simp] be_length

set_option maxHeartbeats 400000 in
theorem rframe_ok (ad : Option Addr) (cap : Nat) (l : List UInt8) (w : World) (hb : Bytes w ad cap l) (hl : l.length ≤ 67108864) :
    Calls Tryd.prog 16 #[.slice ad l.length cap] w fun e w' => ∃ ad' cap', e = .returned (.tuple #[.slice ad' (4 + l.length) cap', .int .i64 0]) ∧ Bytes w' ad' cap' (be 4 l.length ++ l) ∧ Below w.heap.size w w' := by
  obtain ⟨i0, hi, hz0, hz1, hz2⟩ := info_parts Tryd.info5
  have hu : IntKind.u64.wrap (l.length : Int) = (l.length : Int) := by rw [wrapU]; omega
  go_enter Tryd.func16, Tryd.ntmps16
  go_wp2_with fail
  refine (rput_own none 0 [] l.length 4 _ (Bytes.none _) (by simp) (by omega) (by omega) (hid (by omega))).mono ?_
  rintro e w1 ⟨v1, rfl, hown1, hb1⟩
  simp only [List.length_nil, Nat.zero_add, List.nil_append] at hown1
  have hr1 := own_from hown1
  go_wp2_with (at_builtin; refine wpList_append_bytes _ rfl (.tmp 10) (.tmp 11) 22 rfl w.heap.size 5 i0 Tryd.underlying22 hi hz0 hz1 hz2 v1 (be 4 l.length) 4 rfl hown1 ad l.length cap l rfl rfl (hb.below hb1) (by omega) hb1.size ?_; intro v2 w2 hown2 hgrow2)
  have hb2 := hb1.grown hgrow2 hb1.size hr1
  go_ret2
  obtain ⟨ad2, cap2, rfl, hby⟩ := Bytes.ofOwns hown2 (by omega)
  exact ⟨ad2, cap2, rfl, hby, hb2⟩

set_option maxHeartbeats 400000 in
theorem rcut_short (ad : Option Addr) (len cap : Nat) (w : World) (h : len < 4) :
    Calls Tryd.prog 18 #[.slice ad len cap] w fun e w' => e = .returned (.tuple #[.slice none 0 0, .slice none 0 0, .int .i64 4]) ∧ w = w' := by
  go_enter Tryd.func18, Tryd.ntmps18
  go_wp2_with fail
  refine (rtake_end ad len cap 4 _ (by omega) (by omega) (by omega)).mono ?_
  rintro e w1 ⟨rfl, rfl⟩
  go_wp2_with fail
  go_ret3
  exact ⟨rfl, rfl⟩

set_option maxHeartbeats 400000 in
theorem rcut_long (ad : Option Addr) (cap : Nat) (l : List UInt8) (S : Nat) (w : World) (hb : Bytes w ad cap l) (h4 : 4 ≤ l.length) (HS : Hid (num (l.take 4) = S)) (hS : 67108864 < S) :
    Calls Tryd.prog 18 #[.slice ad l.length cap] w fun e w' => e = .returned (.tuple #[.slice none 0 0, .slice none 0 0, .int .i64 2]) ∧ Below w.heap.size w w' := by
  have hS' : (67108864 : Int) < (S : Int) := by omega
  go_enter Tryd.func18, Tryd.ntmps18
  go_wp2_with fail
  refine (rtake_ok ad cap l.length l 4 _ rfl hb (by omega) (by omega) h4).mono ?_
  rintro e w1 ⟨ra, rc, rfl, hr, hb1⟩
  rw [HS.out]
  go_wp2_with fail
  go_ret3
  exact ⟨rfl, hb1⟩

set_option maxHeartbeats 400000 in
theorem rcut_end (ad : Option Addr) (cap : Nat) (l : List UInt8) (S : Nat) (w : World) (hb : Bytes w ad cap l) (h4 : 4 ≤ l.length) (HS : Hid (num (l.take 4) = S)) (hS : S ≤ 67108864) (hl : l.length < 4 + S) :
    Calls Tryd.prog 18 #[.slice ad l.length cap] w fun e w' => e = .returned (.tuple #[.slice none 0 0, .slice none 0 0, .int .i64 4]) ∧ Below w.heap.size w w' := by
  have c1 : ((l.length - 4 : Nat) : Int) < (S : Int) := by omega
  go_enter Tryd.func18, Tryd.ntmps18
  go_wp2_with fail
  refine (rtake_ok ad cap l.length l 4 _ rfl hb (by omega) (by omega) h4).mono ?_
  rintro e w1 ⟨ra, rc, rfl, hr, hb1⟩
  rw [HS.out]
  generalize l.length - 4 = r at *
  go_wp2_with fail
  go_ret3
  exact ⟨rfl, hb1⟩

set_option maxHeartbeats 400000 in
theorem rcut_ok (ad : Option Addr) (cap : Nat) (l : List UInt8) (S : Nat) (w : World) (hb : Bytes w ad cap l) (HS : Hid (num (l.take 4) = S)) (hS : S ≤ 67108864) (hl : 4 + S ≤ l.length) :
    Calls Tryd.prog 18 #[.slice ad l.length cap] w fun e w' => ∃ ra rc rb rd, e = .returned (.tuple #[.slice ra S rc, .slice rb (l.length - 4 - S) rd, .int .i64 0]) ∧ Bytes w' ra rc ((l.drop 4).take S) ∧ Bytes w' rb rd ((l.drop 4).drop S) ∧ Below w.heap.size w w' := by
  go_enter Tryd.func18, Tryd.ntmps18
  go_wp2_with fail
  refine (rtake_ok ad cap l.length l 4 _ rfl hb (by omega) (by omega) (by omega)).mono ?_
  rintro e w1 ⟨ra, rc, rfl, hr, hb1⟩
  rw [HS.out]
  have hrl : Hid ((l.drop 4).length = l.length - 4) := hid (by simp)
  have hle := hr.le
  rw [hrl.out] at hle
  have c0 : (0 : Int) ≤ (S : Int) := by omega
  have c1 : (S : Int) ≤ ((l.length - 4 : Nat) : Int) := by omega
  have c2 : (S : Int) ≤ (rc : Int) := by omega
  generalize hR : l.length - 4 = r at *
  generalize hT : l.drop 4 = t at *
  have HR := hid hR
  have HT := hid hT
  clear hR hT
  by_cases hc : rc = S
  · subst hc
    go_wp2_with fail
    go_quiet (fail)
    go_wp2_with fail
    go_ret3
    have hd := below_drewN (Below.refl w1.heap.size w1) nq
    rw [HR.out, HT.out, show r - rc = 0 from by omega]
    exact ⟨ra, rc, ra, 0, rfl, (hr.take rc).below hd, (drop_all hr).below hd, hb1.trans (hd.mono hb1.size)⟩
  · go_wp2_with fail
    go_quiet (fail)
    go_wp2_with fail
    go_ret3
    have hd := below_drewN (Below.refl w1.heap.size w1) nq
    rw [HR.out, HT.out]
    exact ⟨ra, rc, _, _, rfl, (hr.take S).below hd, (drop_lies hr S hc).below hd, hb1.trans (hd.mono hb1.size)⟩

end Go.Proofs.YtpccgdhiekbmpaaDoor
