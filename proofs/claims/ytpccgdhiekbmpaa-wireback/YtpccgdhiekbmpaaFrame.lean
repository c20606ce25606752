/- What 'wire.Frame' and the laws' own 'sure' answer. -/
import Derived.Test.YtpccgdhiekbmpaaPut
import Derived.Lib.SlBytesConst
namespace Go.Proofs.Ytpccgdhiekbmpaa
open Go.RowKit
attribute [local simp] be_length

set_option maxHeartbeats 400000 in
theorem frame_long (ad : Option Addr) (len cap : Nat) (w : World) (hl : 67108864 < len) (hc : len ≤ 140737488355328) :
    Calls Try.prog 6 #[.slice ad len cap] w fun e w' => e = .returned (.tuple #[.slice none 0 0, .iface 40 (.int .i64 2)]) ∧ w = w' := by
  have hl' : (67108864 : Int) < (len : Int) := by omega
  go_enter Try.func6, Try.ntmps6
  go_wp2
  go_ret2
  exact ⟨rfl, rfl⟩

set_option maxHeartbeats 400000 in
theorem frame_ok (ad : Option Addr) (cap : Nat) (l : List UInt8) (w : World) (hb : Bytes w ad cap l) (hl : l.length ≤ 67108864) :
    Calls Try.prog 6 #[.slice ad l.length cap] w fun e w' => ∃ g, e = .returned (.tuple #[.slice (some ⟨g, 0, none⟩) (4 + l.length) (4 + l.length), .nilIface]) ∧ Bytes w' (some ⟨g, 0, none⟩) (4 + l.length) (be 4 l.length ++ l) ∧ Below w.heap.size w w' := by
  obtain ⟨i0, hi, hz0, hz1, hz2⟩ := info_parts Try.info5
  go_enter Try.func6, Try.ntmps6
  go_wp2_with (first
    | (at_make; refine wpList_make_own _ rfl (.const (.int .i64 0)) (.tmp 11) 24 rfl w.heap.size 5 i0 (.int .u8 0) 1 Try.underlying24 hi hz0 hz1 .i64 .i64 _ (4 + l.length) rfl rfl (by omega) (by rw [hz2]; omega) (by unfold maxLen; omega) (Nat.le_refl _) ?_; intro w1 hown hgrow; have hb1 := (Below.refl w.heap.size w).grown hgrow (Nat.le_refl _) (by simp); clear hgrow)
    | (go_at_call 7; refine (put_ok none 0 [] l.length 4 _ (Bytes.none _) (by simp) (by omega) (by omega)).mono ?_; rintro e w2 ⟨g2, rfl, hp, hbp⟩; have hown2 := ownsRow_below hown hbp; have hb2 := hb1.trans (hbp.mono hb1.size); clear hown)
    | (at_builtin; refine wpList_append_fits _ rfl (.tmp 13) (.tmp 17) 24 rfl w.heap.size 5 i0 1 Try.underlying24 hi hz1 w.heap.size 0 (4 + l.length) _ rfl hown2 _ 4 4 ((be 4 l.length).map bc) rfl (by simp) (hp.cell _ rfl) (bc_oneCell _) (by omega) ?_; intro w3 hown3 hgrow3; have hb3 := hb2.grown hgrow3 hb2.size (fun k hk => by cases hk; exact Nat.le_refl _); clear hgrow3)
    | (at_builtin; refine wpList_append_fits_any _ rfl (.tmp 19) (.tmp 20) 24 rfl w.heap.size 5 i0 1 Try.underlying24 hi hz1 w.heap.size 4 (4 + l.length) _ rfl hown3 ad l.length cap (l.map bc) rfl (by simp) (fun e => by have := hb.nil e; have := hb.le; omega) (hb.below hb3).cell (bc_oneCell _) (by omega) ?_; intro w4 hown4 hgrow4; have hb4 := hb3.grown hgrow4 hb3.size (fun k hk => by cases hk; exact Nat.le_refl _); clear hgrow4))
  go_ret2
  exact ⟨w.heap.size, rfl, Bytes.ofRow (l := be 4 l.length ++ l) (by simpa using hown4) (by omega), hb4⟩

/-- 'string(b)' of a slice of bytes. -/
theorem string_of {w : World} {ad : Option Addr} {cap : Nat} {l : List UInt8} (h : Bytes w ad cap l) :
    (convert 24 9 (.slice ad l.length cap)).run Try.prog w = .ok (.string ⟨l.toArray⟩) w := by
  cases ad with
  | none =>
    have h1 := h.nil rfl
    have h2 := h.le
    have h3 : l = [] := List.eq_nil_of_length_eq_zero (by omega)
    subst h3
    exact run_convert_bytes_nil w 24 5 Try.underlying24 Try.underlying5 _ _ 9 Try.underlying9
  | some a =>
    refine run_convert_bytes_back w 24 9 5 a cap l Try.underlying24 Try.underlying5 Try.underlying9 ?_
    intro j hj
    exact h.cell a rfl j _ (by simp [bc, hj])

theorem string_at {w : World} {ad : Option Addr} {cap n : Nat} {l : List UInt8} (h : Bytes w ad cap l) (hn : n = l.length) :
    (convert 24 9 (.slice ad n cap)).run Try.prog w = .ok (.string ⟨l.toArray⟩) w := by
  subst hn
  exact string_of h

theorem ab_lies (w : World) : Bytes (w.alloc (.cells #[.int .u8 97, .int .u8 98] 5 (2, 3))) (some ⟨w.heap.size, 0, none⟩) 2 [97, 98] := by
  refine ⟨by simp, by simp, by simp, ?_⟩
  intro a ha j u hu
  cases ha
  have hp : (⟨w.heap.size, 0, .none⟩ : Addr).add j = ⟨w.heap.size, j, .none⟩ := by unfold Addr.add; split <;> simp_all
  rw [hp, World.cell?_alloc_mark]
  match j, hu with
  | 0, hu => simpa [bc] using hu
  | 1, hu => simpa [bc] using hu

theorem ab_same : (be 4 2 ++ [97, 98] == [0, 0, 0, 2, 97, 98]) = true := by decide

set_option maxHeartbeats 400000 in
theorem sure_any (w : World) : Calls Try.prog 5 #[] w fun e w' => e = .returned (.bool true) ∧ Below w.heap.size w w' := by
  have kc := Lib.run_convert_bytes_const (P := Try.prog) w 24 5 #[.int .u8 97, .int .u8 98] 2 2 Try.underlying24 Try.underlying5
  have hb1 := (Below.refl w.heap.size w).alloc (Nat.le_refl _) (.cells #[.int .u8 97, .int .u8 98] 5 (2, 3))
  go_enter Try.func5, Try.ntmps5
  go_wp2_with (first
    | (go_at_call 6; refine (frame_ok _ 2 [97, 98] _ (ab_lies w) (by simp)).mono ?_; rintro e w2 ⟨g2, rfl, hp, hbp⟩; have hb2 := hb1.trans (hbp.mono hb1.size); have hs : (convert 24 9 (.slice (some ⟨g2, 0, none⟩) 6 6)).run Try.prog w2 = _ := string_of hp))
  go_ret
  exact ⟨congrArg (fun b => Ending.returned (.bool b)) ab_same, hb2⟩

end Go.Proofs.Ytpccgdhiekbmpaa
