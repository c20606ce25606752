/- The document's answer: Load, All and Full of the reference; samePlaces; two slices of the same numbers. -/
import Derived.Test.YtjkiagjgnfaknaaDoorGive3
namespace Go.Proofs.YtjkiagjgnfaknaaDoor
open Go.RowKit

theorem Ints.of {w w' : World} {lo hi : Nat} {ad : Option Addr} {l : List Int} (h : Ints w ad l) (hw : Within lo hi w w') (ho : ∀ a, ad = some a → hi ≤ a.block) : Ints w' ad l :=
  ⟨h.nil, h.bound, h.num, fun a ha j z hz => hw.cell (h.cell a ha j z hz) (Or.inr (by have := ho a ha; unfold Addr.add; split <;> exact this))⟩



set_option maxRecDepth 100000 in
set_option maxHeartbeats 2000000 in
theorem same_ok (a b : Option Addr) (ca cb : Nat) (ps : List (Int × Int)) (w : World) (ha : Prow w a ps) (hb : Prow w b ps) :
    Calls Tryd.prog 15 #[.slice a ps.length ca, .slice b ps.length cb] w fun e w' => e = .returned (.bool true) ∧ Below w.heap.size w w' := by
  have hl := ha.bound
  go_enter Tryd.func15, Tryd.ntmps15
  go_wp2_with fail
  go_loopw [5] (fun u wr => ∃ j : Nat, j ≤ ps.length ∧ u = .int .i64 (j : Int) ∧ Below w.heap.size w wr)
    (fun u _ => ps.length - (intOf u).toNat)
  case atStart => exact ⟨0, by omega, by go_num, Below.refl _ _⟩
  case round =>
    obtain ⟨j, hj, rfl, hbr⟩ := hrel
    rcases Nat.lt_or_ge j ps.length with hlt | hge
    · obtain ⟨p, hp⟩ : ∃ z, ps[j]? = some z := ⟨_, List.getElem?_eq_getElem hlt⟩
      cases a with
      | none => have := ha.nil rfl; subst this; simp at hlt
      | some a =>
        cases b with
        | none => have := hb.nil rfl; subst this; simp at hlt
        | some b =>
          have hca := (ha.below hbr).first hp
          have hcb := (hb.below hbr).first hp
          have hca1 := (ha.below hbr).second hp
          have hcb1 := (hb.below hbr).second hp
          clear hp
          go_wp2_with fail
          go_region
          go_wp2_with fail
          go_roundw
          case rel => exact ⟨j + 1, by omega, by go_num, hbr.drew⟩
          case measure => simp [intOf]; omega
    · go_wp2_with fail
      go_ret
      exact ⟨rfl, hbr⟩

/-- The reference's arena. -/
abbrev ra (n : Int) (ad : Option Addr) (len cap : Nat) : Value := .agg #[.int .i64 n, .slice ad len cap]

set_option maxRecDepth 100000 in
set_option maxHeartbeats 2000000 in
theorem rall_ok (n : Int) (ad : Option Addr) (ps : List (Int × Int)) (cap : Nat) (w : World) (h : Prow w ad ps) (hl : ps.length ≤ 1048576) :
    Calls Tryd.prog 18 #[ra n ad ps.length cap] w fun e w' => ∃ ad' cap', e = .returned (.slice ad' (livesI ps).length cap') ∧ Ints w' ad' (livesI ps) ∧ Below w.heap.size w w' := by
  obtain ⟨i0, hif, hz0, hz1, hz2⟩ := info_parts infoInt
  have hb0 : Below w.heap.size w (w.alloc (.cells #[.int .i64 n, .slice ad ps.length cap] 33)) := (Below.refl _ _).alloc (Nat.le_refl _) _
  have hbk : Hid (∀ y, Below (w.heap.size + 1) (w.alloc (.cells #[.int .i64 n, .slice ad ps.length cap] 33)) y → y.cell? ⟨w.heap.size, 1, none⟩ = some (.slice ad ps.length cap) ∧ Below w.heap.size w y) := fun y hy =>
    ⟨by rw [hy.cell (by simp)]; simp, hb0.trans (hy.mono (by omega))⟩
  go_enter Tryd.func18, Tryd.ntmps18
  go_wp2_with fail
  generalize hwb : w.alloc (.cells #[.int .i64 n, .slice ad ps.length cap] 33) = wb at hbk hb0 ⊢
  have hsb : wb.heap.size = w.heap.size + 1 := by rw [← hwb]; simp
  clear hwb
  go_loopw [3, 4] (fun v u wr => ∃ i : Nat, i ≤ ps.length ∧ u = .int .i64 (i : Int) ∧ wr.ownsRow (w.heap.size + 1) 3 1 v (lv ps i).length ((lv ps i).map ic) ∧ Below (w.heap.size + 1) wb wr)
    (fun _ u _ => ps.length - (intOf u).toNat)
  case atStart => exact ⟨0, by omega, by go_num, by simpa [lv] using World.ownsRow_nil _ _ _ _, Below.refl _ _⟩
  case round =>
    obtain ⟨i, hi, rfl, hown, hbr⟩ := hrel
    obtain ⟨hcs, hbw⟩ := hbk.out wr hbr
    have hsr := hbr.size
    rcases Nat.lt_or_ge i ps.length with hlt | hge
    · obtain ⟨⟨a, s⟩, hp⟩ : ∃ z, ps[i]? = some z := ⟨_, List.getElem?_eq_getElem hlt⟩
      cases ad with
      | none => have := h.nil rfl; subst this; simp at hlt
      | some ad =>
        have hc1 := (h.below hbw).second hp
        have hat := hid (atP_some hp)
        have hsuc := hid (lv_succ ps i)
        have hble := hid (lv_le ps i)
        clear hp
        by_cases hs1 : s = 1
        · subst hs1
          go_wp2_with (at_builtin; refine wpList_append_own _ rfl (.tmp 19) (.tmp 21) 57 rfl (w.heap.size + 1) 3 i0 (.int .i64 0) 1 8 Tryd.underlying57 hif hz0 hz1 hz2 rfl (by decide) _ _ _ rfl (hown.alloc _) ⟨wr.heap.size, 0, none⟩ 1 1 [.int .i64 (i : Int)] rfl rfl (cell_one_new _ _ _) (by simp [Value.oneCell']) (by have := hble.out; unfold maxLen; omega) (by have := hble.out; omega) (by simp; omega) ?_; intro v3 w3 hown3 hgrow3 _; refine Hid.out ?_)
          have hb3 := (hbr.alloc (by omega) (.cells #[.int .i64 (i : Int)] 3)).grown hgrow3 (by simp; omega) (fun k hk => (hown.lt k hk).1)
          have hown4 : w3.ownsRow (w.heap.size + 1) 3 1 v3 (lv ps (i + 1)).length ((lv ps (i + 1)).map ic) := by
            rw [hsuc.out, hat.out, if_pos rfl, List.length_append, List.map_append]
            exact hown3
          clear hown3 hgrow3 hown
          refine hid ?_
          go_wp2_with fail
          go_roundw
          case rel => exact ⟨i + 1, by omega, by go_num, hown4, hb3⟩
          case measure => simp [intOf]; omega
        · have ts : (s == 1) = false := by simpa using hs1
          have hown4 : wr.ownsRow (w.heap.size + 1) 3 1 u3 (lv ps (i + 1)).length ((lv ps (i + 1)).map ic) := by
            rw [hsuc.out, hat.out, if_neg (by simpa using hs1), List.append_nil]
            exact hown
          clear hown
          go_wp2_with fail
          go_roundw
          case rel => exact ⟨i + 1, by omega, by go_num, hown4, hbr⟩
          case measure => simp [intOf]; omega
    · obtain rfl : i = ps.length := by omega
      have hlvl : (lives ps).length ≤ 1048576 := by have := lv_le ps ps.length; unfold lives; omega
      obtain ⟨ad', cp, hv, hbl, hI⟩ := Ints.ofRow (ns := lives ps) hown (fun y hy => by
        have := ((lv_mem ps ps.length y).1 hy).1
        omega) hlvl
      subst hv
      have hIh := hid hI
      clear hown hI hbl
      go_wp2_with fail
      go_ret
      have hpl : (lives ps).length = (livesI ps).length := by simp [livesI]
      rw [hpl]
      exact ⟨ad', cp, rfl, hIh.out, hbw⟩

theorem full_split {ps : List (Int × Int)} (hh : ∀ (i : Nat) p, ps[i]? = some p → p.2 ≠ 0) : lowP ps = ps.length := by
  rcases Nat.lt_or_ge (lowP ps) ps.length with h1 | h1
  · have := lowP_at ps
    rw [atP_some (List.getElem?_eq_getElem h1)] at this
    exact absurd this (hh _ _ (List.getElem?_eq_getElem h1))
  · have := lowP_le ps; omega

set_option maxRecDepth 100000 in
set_option maxHeartbeats 2000000 in
theorem rfull_ok (n : Nat) (ad : Option Addr) (ps : List (Int × Int)) (cap : Nat) (w : World) (h : Prow w ad ps) (hl : ps.length ≤ n) (hn : n ≤ 1048576) :
    Calls Tryd.prog 20 #[ra n ad ps.length cap] w fun e w' => e = .returned (.bool (decide (lowP ps = n))) ∧ Below w.heap.size w w' := by
  have hb0 : Below w.heap.size w (w.alloc (.cells #[.int .i64 n, .slice ad ps.length cap] 33)) := (Below.refl _ _).alloc (Nat.le_refl _) _
  have hp0 := hid (h.below hb0)
  clear h
  go_enter Tryd.func20, Tryd.ntmps20
  go_wp2_with fail
  go_loopw [3] (fun u wr => ∃ i : Nat, i ≤ ps.length ∧ u = .int .i64 (i : Int) ∧ Hid (∀ (k : Nat) p, ps[k]? = some p → k < i → p.2 ≠ 0) ∧ wr = w.alloc (.cells #[.int .i64 n, .slice ad ps.length cap] 33))
    (fun u _ => ps.length - (intOf u).toNat)
  case atStart => exact ⟨0, by omega, by go_num, fun _ _ _ h => by omega, rfl⟩
  case round =>
    obtain ⟨i, hi, rfl, hno, rfl⟩ := hrel
    rcases Nat.lt_or_ge i ps.length with hlt | hge
    · obtain ⟨⟨a, s⟩, hp⟩ : ∃ z, ps[i]? = some z := ⟨_, List.getElem?_eq_getElem hlt⟩
      cases ad with
      | none => have := hp0.out.nil rfl; subst this; simp at hlt
      | some ad =>
        have hc1 := hp0.out.second hp
        have hph := hid hp
        clear hp
        by_cases hs0 : s = 0
        · subst hs0
          go_wp2_with fail
          go_ret
          refine ⟨?_, hb0⟩
          have hlow : lowP ps ≤ i := by
            rcases Nat.lt_or_ge i (lowP ps) with h1 | h1
            · have := lowP_held ps i h1
              unfold heldB at this
              rw [hph.out] at this
              simp at this
            · exact h1
          rw [decide_eq_false (by omega)]
          rfl
        · have ts : (s == 0) = false := by simpa using hs0
          go_wp2_with fail
          go_roundw
          case rel =>
            refine ⟨i + 1, by omega, by go_num, fun k q hq hk => ?_, trivial⟩
            rcases Nat.lt_or_ge k i with h1 | h1
            · exact hno.out k q hq h1
            · obtain rfl : k = i := by omega
              rw [hph.out] at hq
              cases hq
              exact hs0
          case measure => simp [intOf]; omega
    · obtain rfl : i = ps.length := by omega
      have hlow := hid (full_split (fun k p hp => hno.out k p hp (List.getElem?_eq_some_iff.1 hp).1))
      go_wp2_with fail
      go_ret
      refine ⟨?_, hb0⟩
      rw [hlow.out]
      by_cases he : ps.length = n
      · rw [decide_eq_true he, he]; simp
      · rw [decide_eq_false he]
        have : ((ps.length : Int) == (n : Int)) = false := by simp; omega
        simp [this]

end Go.Proofs.YtjkiagjgnfaknaaDoor
