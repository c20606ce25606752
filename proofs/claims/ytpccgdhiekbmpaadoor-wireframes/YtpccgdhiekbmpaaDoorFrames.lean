/- The law 'WireFrames', from the contracts. -/
import Derived.Test.YtpccgdhiekbmpaaDoorRFrame
import Derived.Test.YtpccgdhiekbmpaaDoorCut
import Derived.Test.YtpccgdhiekbmpaaDoorFrame
import Derived.Test.YtpccgdhiekbmpaaDoorErrAs
namespace Go.Proofs.YtpccgdhiekbmpaaDoor
open Go.RowKit
set_option linter.unusedVariables false
attribute [local simp] be_length

set_option maxHeartbeats 400000 in
theorem frames_long (ad : Option Addr) (len cap : Nat) (w : World) (hl : 20000 < len) :
    Calls Tryd.prog 4 #[.slice ad len cap] w fun e w' => e = .returned (.bool true) ∧ Below w.heap.size w w' := by
  have h2 : (20000 : Int) < (len : Int) := by omega
  go_enter Tryd.func4, Tryd.ntmps4
  go_wp2_with fail
  refine (sure_any _).mono ?_
  rintro e w2 ⟨rfl, hb2⟩
  go_wp2_with fail
  go_ret
  exact ⟨rfl, hb2⟩

set_option maxHeartbeats 1000000 in
theorem frames_tail (ad : Option Addr) (cap : Nat) (l : List UInt8) (w : World) (hb : Bytes w ad cap l) (hg : Handle w) (hl : l.length ≤ 20000)
    (E : Value) (F : Int) (LA LB : List UInt8) (la lb : Nat) (hla : Hid (la = LA.length)) (hlb : Hid (lb = LB.length))
    (hcut : Hid (∀ W, Bytes W ad cap l → Calls Tryd.prog 17 #[.slice ad l.length cap] W fun e W' => ∃ ra rc rb rd, e = .returned (.tuple #[.slice ra la rc, .slice rb lb rd, E]) ∧ Bytes W' ra rc LA ∧ Bytes W' rb rd LB ∧ Below W.heap.size W W'))
    (hrcut : Hid (∀ W, Bytes W ad cap l → Calls Tryd.prog 18 #[.slice ad l.length cap] W fun e W' => ∃ ra rc rb rd, e = .returned (.tuple #[.slice ra la rc, .slice rb lb rd, .int .i64 F]) ∧ Bytes W' ra rc LA ∧ Bytes W' rb rd LB ∧ Below W.heap.size W W'))
    (hnum : Hid (∀ W, Handle W → Calls Tryd.prog 12 #[E] W fun e W' => e = .returned (.int .i64 F) ∧ Below W.heap.size W W')) :
    Calls Tryd.prog 4 #[.slice ad l.length cap] w fun e w' => e = .returned (.bool true) ∧ Below w.heap.size w w' := by
  go_enter Tryd.func4, Tryd.ntmps4
  go_wp2_with fail
  refine (frame_ok ad cap l _ hb (by omega)).mono ?_
  rintro e w1 ⟨g, rfl, hf, hb1⟩
  go_wp2_with fail
  refine (rframe_ok ad cap l _ (hb.below hb1) (by omega)).mono ?_
  rintro e w2 ⟨fa, fc, rfl, hf2, hb2⟩
  have hf' := hf.below hb2
  have b2 := hb1.trans (hb2.mono hb1.size)
  clear hb1 hb2 hf
  go_wp2_with fail
  refine (hcut.out _ (hb.below b2)).mono ?_
  rintro e w3 ⟨ra, rc, rb, rd, rfl, ha, hbb, hb3⟩
  have b3 := b2.trans (hb3.mono b2.size)
  have hf3 := hf'.below hb3
  have hf4 := hf2.below hb3
  clear hf' hf2
  go_wp2_with fail
  refine (hrcut.out _ (hb.below b3)).mono ?_
  rintro e w4 ⟨ra', rc', rb', rd', rfl, ha', hbb', hb4⟩
  have b4 := b3.trans (hb4.mono b3.size)
  have s1 := string_at (n := 4 + l.length) (hf3.below hb4) (by simp)
  have s2 := string_at (n := 4 + l.length) (hf4.below hb4) (by simp)
  have ha2 := ha.below hb4
  have hbb2 := hbb.below hb4
  clear ha hbb hf3 hf4 b2 hb3 hb4 b3
  go_wp2_with fail
  refine (num_nil _).mono ?_
  rintro e w5 ⟨rfl, hb5⟩
  have b5 := b4.trans (hb5.mono b4.size)
  have s3 := string_at (ha2.below hb5) hla.out
  have s4 := string_at (ha'.below hb5) hla.out
  have s5 := string_at (hbb2.below hb5) hlb.out
  have s6 := string_at (hbb'.below hb5) hlb.out
  clear s1 s2 ha2 ha' hbb2 hbb'
  go_wp2_with fail
  refine (hnum.out _ (hg.below b5)).mono ?_
  rintro e w6 ⟨rfl, hb6⟩
  have b6 := b5.trans (hb6.mono b5.size)
  clear s3 s4 s5 s6
  go_wp2_with fail
  refine (sure_any _).mono ?_
  rintro e w7 ⟨rfl, hb7⟩
  go_wp2_with fail
  go_ret
  exact ⟨rfl, b6.trans (hb7.mono b6.size)⟩

theorem frames_any (ad : Option Addr) (cap len : Nat) (l : List UInt8) (w : World) (hlen : len = l.length) (hg : Handle w) (hb : Bytes w ad cap l) :
    Calls Tryd.prog 4 #[.slice ad len cap] w fun e w' => e = .returned (.bool true) ∧ Below w.heap.size w w' := by
  subst hlen
  by_cases hl : 20000 < l.length
  · exact frames_long ad l.length cap w hl
  · by_cases h4 : l.length < 4
    · refine frames_tail ad cap l w hb hg (by omega) (.iface 48 (.int .i64 4)) 4 [] [] 0 0 rfl rfl (hid fun W h => ?_) (hid fun W h => ?_) (hid fun W h => num_err 4 W h)
      · refine (cut_short ad l.length cap W h4).mono ?_
        rintro e w' ⟨rfl, rfl⟩
        exact ⟨none, 0, none, 0, rfl, Bytes.none W, Bytes.none W, Below.refl _ _⟩
      · refine (rcut_short ad l.length cap W h4).mono ?_
        rintro e w' ⟨rfl, rfl⟩
        exact ⟨none, 0, none, 0, rfl, Bytes.none W, Bytes.none W, Below.refl _ _⟩
    · by_cases hS : 67108864 < num (l.take 4)
      · refine frames_tail ad cap l w hb hg (by omega) (.iface 48 (.int .i64 2)) 2 [] [] 0 0 rfl rfl (hid fun W h => ?_) (hid fun W h => ?_) (hid fun W h => num_err 2 W h)
        · refine (cut_long ad cap l _ W h (by omega) rfl hS).mono ?_
          rintro e w' ⟨rfl, rfl⟩
          exact ⟨none, 0, none, 0, rfl, Bytes.none W, Bytes.none W, Below.refl _ _⟩
        · refine (rcut_long ad cap l _ W h (by omega) rfl hS).mono ?_
          rintro e w' ⟨rfl, hw⟩
          exact ⟨none, 0, none, 0, rfl, Bytes.none _, Bytes.none _, hw⟩
      · by_cases he : l.length < 4 + num (l.take 4)
        · refine frames_tail ad cap l w hb hg (by omega) (.iface 48 (.int .i64 4)) 4 [] [] 0 0 rfl rfl (hid fun W h => ?_) (hid fun W h => ?_) (hid fun W h => num_err 4 W h)
          · refine (cut_end ad cap l _ W h (by omega) rfl (by omega) he).mono ?_
            rintro e w' ⟨rfl, rfl⟩
            exact ⟨none, 0, none, 0, rfl, Bytes.none W, Bytes.none W, Below.refl _ _⟩
          · refine (rcut_end ad cap l _ W h (by omega) rfl (by omega) he).mono ?_
            rintro e w' ⟨rfl, hw⟩
            exact ⟨none, 0, none, 0, rfl, Bytes.none _, Bytes.none _, hw⟩
        · refine frames_tail ad cap l w hb hg (by omega) .nilIface 0 ((l.drop 4).take (num (l.take 4))) (l.drop (4 + num (l.take 4))) (num (l.take 4)) (l.length - (4 + num (l.take 4))) (hid (by simp; omega)) (hid (by simp)) (hid fun W h => ?_) (hid fun W h => ?_) (hid fun W _ => num_nil W)
          · refine (cut_ok ad cap l.length l _ W rfl h rfl (by omega) (by omega)).mono ?_
            rintro e w' ⟨g, g', rfl, h1, h2, h3⟩
            exact ⟨_, _, _, _, rfl, h1, h2, h3⟩
          · refine (rcut_ok ad cap l _ W h rfl (by omega) (by omega)).mono ?_
            rintro e w' ⟨ra, rc, rb, rd, rfl, h1, h2, h3⟩
            rw [Nat.sub_sub, List.drop_drop] at *
            exact ⟨ra, rc, rb, rd, rfl, h1, h2, h3⟩

end Go.Proofs.YtpccgdhiekbmpaaDoor
