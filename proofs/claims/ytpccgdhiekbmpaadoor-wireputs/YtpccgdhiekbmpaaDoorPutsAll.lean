/- The law 'WirePuts', whatever it is given. -/
import Derived.Test.YtpccgdhiekbmpaaDoorPuts
namespace Go.Proofs.YtpccgdhiekbmpaaDoor
open Go.RowKit
attribute [local simp] be_length

theorem puts_any (ad : Option Addr) (cap len : Nat) (l : List UInt8) (v n : Int) (w : World) (hlen : len = l.length) (hg : Handle w) (hb : Bytes w ad cap l) (wv : (Lit.int .u64 v).wf = true) :
    Calls Tryd.prog 3 #[.slice ad len cap, .int .u64 v, .int .i64 n] w fun e w' => e = .returned (.bool true) ∧ Below w.heap.size w w' := by
  subst hlen
  obtain ⟨V, rfl, hV⟩ := wfU wv
  by_cases hl : 20000 < l.length
  · exact puts_long ad l.length cap V n w hl
  · by_cases hn : n < 1 ∨ 8 < n
    · refine puts_tail ad cap l V n w hb hg (by omega) 0 (.iface 48 (.int .i64 1)) 1 [] l 0 l.length rfl rfl (hid fun W h => ?_) (hid fun W h => ?_) (hid fun W h => ?_) (hid fun W h => ?_) (hid fun W h => num_err 1 W h)
      · refine (take_arg ad l.length cap n W hn).mono ?_
        rintro e w' ⟨rfl, rfl⟩
        exact ⟨none, 0, rfl, Bytes.none W, Below.refl _ _⟩
      · refine (rtake_arg ad l.length cap n W hn).mono ?_
        rintro e w' ⟨rfl, rfl⟩
        exact ⟨none, 0, rfl, Bytes.none W, Below.refl _ _⟩
      · refine (put_no ad cap l V n W h hn).mono ?_
        rintro e w' ⟨g, rfl, h1, h2⟩
        exact ⟨_, _, rfl, h1, h2⟩
      · exact rput_no ad cap l V n W h (by omega) hn
    · obtain ⟨N, rfl⟩ : ∃ N : Nat, n = N := ⟨n.toNat, by omega⟩
      have hput : Hid (∀ W, Bytes W ad cap l → Calls Tryd.prog 10 #[.slice ad l.length cap, .int .u64 V, .int .i64 N] W fun e W' => ∃ ra rc, e = .returned (.slice ra (l.length + N) rc) ∧ Bytes W' ra rc (l ++ be N V) ∧ Below W.heap.size W W') := hid fun W h => by
        refine (put_ok ad cap l V N W h (by omega) (by omega) (by omega)).mono ?_
        rintro e w' ⟨g, rfl, h1, h2⟩
        exact ⟨_, _, rfl, h1, h2⟩
      have hrput : Hid (∀ W, Bytes W ad cap l → Calls Tryd.prog 11 #[.slice ad l.length cap, .int .u64 V, .int .i64 N] W fun e W' => ∃ ra rc, e = .returned (.slice ra (l.length + N) rc) ∧ Bytes W' ra rc (l ++ be N V) ∧ Below W.heap.size W W') := hid fun W h =>
        rput_ok ad cap l V N W h (by omega) (by omega) (by omega) hV
      by_cases hs : l.length < N
      · refine puts_tail ad cap l V N w hb hg (by omega) 0 (.iface 48 (.int .i64 4)) 4 [] (l ++ be N V) 0 (l.length + N) rfl (hid (by simp)) (hid fun W h => ?_) (hid fun W h => ?_) hput hrput (hid fun W h => num_err 4 W h)
        · refine (take_end ad l.length cap N W (by omega) (by omega) (by omega)).mono ?_
          rintro e w' ⟨rfl, rfl⟩
          exact ⟨none, 0, rfl, Bytes.none W, Below.refl _ _⟩
        · refine (rtake_end ad l.length cap N W (by omega) (by omega) (by omega)).mono ?_
          rintro e w' ⟨rfl, rfl⟩
          exact ⟨none, 0, rfl, Bytes.none W, Below.refl _ _⟩
      · refine puts_tail ad cap l V N w hb hg (by omega) (num (l.take N)) .nilIface 0 (l.drop N) (l ++ be N V) (l.length - N) (l.length + N) (hid (by simp)) (hid (by simp)) (hid fun W h => ?_) (hid fun W h => ?_) hput hrput (hid fun W _ => num_nil W)
        · refine (take_ok ad cap l N W h (by omega) (by omega) (by omega)).mono ?_
          rintro e w' ⟨g, rfl, h1, h2⟩
          exact ⟨_, _, rfl, h1, h2⟩
        · exact rtake_ok ad cap l.length l N W rfl h (by omega) (by omega) (by omega)

end Go.Proofs.YtpccgdhiekbmpaaDoor
