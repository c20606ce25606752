/- What Add (of a full Arena) and Drop answer, and turn. -/
import Derived.Test.YtjkiagjgnfaknaaDoorAdd3
namespace Go.Proofs.YtjkiagjgnfaknaaDoor
open Go.RowKit

set_option maxRecDepth 100000 in
set_option maxHeartbeats 2000000 in
theorem add_full (lo hi ab n : Nat) (ob : Option Nat) (ps : List (Int × Int)) (w : World) (h : Arena w lo hi ab ob n ps) (hT : Tab w) (hx : n ≤ lowP ps) :
    Calls Tryd.prog 13 #[.pointer (some ⟨ab, 0, none⟩)] w fun e w' => e = .returned (.tuple #[hv 0 0, .iface 66 (.int .i64 16)]) ∧ Below w.heap.size w w' := by
  have hb1 : Below w.heap.size w (w.alloc (.cells #[.int .u32 0, .int .u32 0] 43)) := (Below.refl _ _).alloc (Nat.le_refl _) _
  obtain ⟨hs, sb, hc0, hc1, hsl, hle⟩ := (h.below hb1).slots
  have htk := take_full _ _ _ _ _ hsl (hT.of (Within.ofBelow hb1 w.heap.size w.heap.size) (by have := World.block_lt_of_cell? w _ (hT 0 (by decide)); exact this)) (low_full h.2.le hx)
  have hne : ab < w.heap.size := by have := h.pos; omega
  clear h hsl hc1 hT
  go_enter Tryd.func13, Tryd.ntmps13
  go_wp2_with fail
  refine htk.mono ?_
  rintro e w2 ⟨rfl, rfl⟩
  clear htk
  go_wp2_with fail
  go_returns
  exact ⟨rfl, hb1⟩

set_option maxRecDepth 100000 in
set_option maxHeartbeats 2000000 in
theorem drop_err (lo hi ab n x : Nat) (A : Int) (ob : Option Nat) (ps : List (Int × Int)) (w : World) (h : Arena w lo hi ab ob n ps) (hx : x < 4294967296) (c : Nat) (hc : (n ≤ x ∧ c = 12) ∨ (x < n ∧ atP ps x ≠ (A, 1) ∧ c = 13)) :
    Calls Tryd.prog 9 #[.pointer (some ⟨ab, 0, none⟩), hv A x] w fun e w' => e = .returned (.iface 66 (.int .i64 (c : Int))) ∧ Below w.heap.size w w' := by
  have hb1 : Below w.heap.size w (w.alloc (.cells #[.int .u32 A, .int .u32 (x : Int)] 43)) := (Below.refl _ _).alloc (Nat.le_refl _) _
  have hfd := find_any lo hi ab n x A ob ps _ (h.below hb1) hx c (by rcases hc with h | h; exact Or.inl h; exact Or.inr (Or.inl h))
  rw [if_neg (by rcases hc with ⟨_, rfl⟩ | ⟨_, _, rfl⟩ <;> decide)] at hfd
  clear h hc
  go_enter Tryd.func9, Tryd.ntmps9
  go_wp2_with fail
  refine hfd.mono ?_
  rintro e w2 ⟨rfl, b2⟩
  have hb2 := hb1.trans (b2.mono (by simp))
  clear hfd b2 hb1
  go_wp2_with fail
  go_ret
  exact ⟨rfl, hb2⟩

theorem set_get {α : Type} {l : List α} {i : Nat} {v : α} (h : l[i]? = some v) : l.set i v = l := by
  apply List.ext_getElem?
  intro j
  rw [List.getElem?_set]
  by_cases hj : i = j
  · subst hj; simp [h]; exact (List.getElem?_eq_some_iff.1 h).1
  · simp [hj]

theorem pcs_mark {qs : List (Int × Int)} {x : Nat} {A t : Int} (h : qs[x]? = some (A, t)) (s : Int) : pcs (qs.set x (A, s)) = (pcs qs).set (x * 2 + 1) (.int .i64 s) := by
  rw [pcs_set]
  simp only
  rw [set_get (pcs_get qs x _ h).1]

/-- What a place is turns. -/
theorem Hold.mark {X : World} {lo hi ab sb c g x cap : Nat} {bs : List Bool} {qs : List (Int × Int)} {A t : Int} (H : Hold X lo hi ab sb (some g) bs c qs)
    (hsl : X.cell? ⟨ab, 2, none⟩ = some (.slice (some ⟨g, 0, none⟩) qs.length cap)) (hq : qs[x]? = some (A, t)) (s : Int) :
    Hold (X.setCell ⟨g, x * 2 + 1, none⟩ (.int .i64 s)) lo hi ab sb (some g) bs c (qs.set x (A, s)) := by
  obtain ⟨hs, pv, c2, z2, hown, hpo, _, _, hk1, _⟩ := H.row
  obtain rfl : pv = .slice (some ⟨g, 0, none⟩) qs.length cap := Option.some.inj (c2.symm.trans hsl)
  obtain ⟨o1, g1⟩ := hown.stored (x * 2 + 1) (.int .i64 s)
  rw [← pcs_mark hq s] at o1
  exact hk1 _ (qs.set x (A, s)) (by simpa using o1) g1

set_option maxRecDepth 100000 in
set_option maxHeartbeats 4000000 in
theorem drop_ok (lo hi ab n x : Nat) (A : Int) (ob : Option Nat) (ps : List (Int × Int)) (w : World) (h : Arena w lo hi ab ob n ps) (hat : atP ps x = (A, 1)) :
    Calls Tryd.prog 9 #[.pointer (some ⟨ab, 0, none⟩), hv A x] w fun e w' => e = .returned .nilIface ∧
      Arena w' lo hi ab ob n (putP ps x (A, if A = 4294967295 then 2 else 0)) ∧ Turned (own lo hi ob) w w' := by
  have hb1 : Below w.heap.size w (w.alloc (.cells #[.int .u32 A, .int .u32 (x : Int)] 43)) := (Below.refl _ _).alloc (Nat.le_refl _) _
  have hpos := h.pos
  have hle := h.2.le
  have hfair := hid h.2
  have hxl : x < ps.length := live_lt (by rw [hat])
  have hxp : ps[x]? = some (A, 1) := by rw [← hat]; exact live_get (by rw [hat])
  have hfd := find_ok lo hi ab n x A ob ps _ (h.below hb1) (by omega) (by omega) hat
  have hok := hid (h.2.ok x _ hxp)
  have hh := hid h
  clear h hat
  go_enter Tryd.func9, Tryd.ntmps9
  go_wp2_with fail
  refine hfd.mono ?_
  rintro e w2 ⟨rfl, b2⟩
  have hb2 := hb1.trans (b2.mono (by simp))
  have hz0 : w2.cell? ⟨w.heap.size, 0, none⟩ = some (.int .u32 A) := by rw [b2.cell (by simp)]; simp
  obtain ⟨⟨sb, hH⟩, _⟩ := hh.out.below hb2
  have hsz2 := hb2.size
  have hcs := hH.cell0
  obtain ⟨hcw, hzw⟩ := hH.cell1
  obtain ⟨hs', pv, hcp, hzp, hown, hpo, hsa, hls, _, _⟩ := hH.row
  obtain ⟨g, cap, hv, _, hgl⟩ := hown.form (by omega)
  subst hv
  obtain ⟨hcg, hcg1⟩ := pcs_get ps x _ hxp
  rw [← hown.cellAt _ (by omega)] at hcg
  rw [← hown.cellAt _ (by omega)] at hcg1
  have hzg1 := hown.frozenAt (x * 2 + 1)
  have hob : ob = some g := by rw [← hpo]; rfl
  subst hob
  have hgab : g ≠ ab := (hpos.2.2.2.2.2 g rfl).2.2
  have hHh := hid hH
  have hxph := hid hxp
  have hwl := wornN_le ps
  obtain ⟨c, hc⟩ : ∃ c, wornN ps = c := ⟨_, rfl⟩
  rw [hc] at hcw hwl
  have hch := hid hc
  have hput : Hid (∀ s, putP ps x (A, s) = ps.set x (A, s)) := fun s => by rw [putP, if_neg (by omega)]
  have hcl : c ≤ 1048576 := by omega
  clear hfd b2 hb1 hown hH hpo hxp hc hh hwl
  have hown3 : Hid (own lo hi (some g) ab ∧ own lo hi (some g) g) := ⟨Or.inl ⟨hpos.2.2.1, hpos.2.2.2.1⟩, Or.inr rfl⟩
  have hm := fun s => hHh.out.mark hcp hxph.out s
  have hA0 : A ≠ 0 := by
    obtain ⟨h1, h2, h3⟩ := hok.out
    rcases h3 with ⟨h3, _⟩ | ⟨_, h3⟩ | ⟨h3, _⟩
    · simp at h3
    · exact h3
    · simp at h3
  by_cases hA : A = 4294967295
  · have hmw := hid ((hm 2).worn (c + 1))
    have hcw2 : Hid (wornN (ps.set x (A, 2)) = c + 1) := by
      have := wornN_set ps x (A, 2) _ hxph.out
      rw [hch.out] at this
      refine hid ?_
      simpa using this
    have hhs : Hid (held n (ps.set x (A, 2)) = held n ps) := by
      show held n (ps.set x (A, 2)) = held n ps
      rw [held_set x _ hxl]
      exact set_get ((held_is hle _ _).2 ⟨by omega, by unfold heldB; rw [hxph.out]; rfl⟩)
    have hfr : Hid (Fair n (putP ps x (A, 2))) := hfair.out.put (by omega) (by omega) (by
      subst hA; decide) hA0
    subst hA
    clear hm hA0
    go_wp2_with fail
    go_ret
    refine ⟨rfl, ⟨⟨sb, ?_⟩, hfr.out⟩, ?_⟩
    · rw [hput.out, hhs.out, hcw2.out]
      exact hmw.out
    · exact ((Turned.ofBelow hb2 _).setCell (p := ⟨g, x * 2 + 1, none⟩) hown3.out.2 _).setCell (p := ⟨ab, 1, none⟩) hown3.out.1 _
  · have tA : (A == 4294967295) = false := by simpa using hA
    have hm0 := hm 0
    obtain ⟨hs, hsl, hsle, hmk⟩ := hm0.slots
    have hfree := free_hit _ _ _ x _ _ hsl ((held_is hle _ _).2 ⟨by omega, by unfold heldB; rw [hxph.out]; rfl⟩)
    have hhs : Hid (held n (ps.set x (A, 0)) = (held n ps).set x false) := by
      show held n (ps.set x (A, 0)) = _
      rw [held_set x _ hxl]; rfl
    have hcw2 : Hid (wornN (ps.set x (A, 0)) = wornN ps) := by
      have := wornN_set ps x (A, 0) _ hxph.out
      refine hid ?_
      simpa using this
    have hfr : Hid (Fair n (putP ps x (A, 0))) := hfair.out.put (by omega) (by omega) (by
      obtain ⟨h1, h2, h3⟩ := hok.out
      exact ⟨h1, h2, Or.inl ⟨rfl, hA⟩⟩) hA0
    have hmkh := hid hmk
    have hab2 : ab < w2.heap.size := by omega
    clear hm hm0 hsl hmk
    go_wp2_with fail
    refine hfree.mono ?_
    rintro e w3 ⟨rfl, s3, v3⟩
    have hF := hid (hmkh.out _ _ s3 v3)
    have hT : Hid (Turned (own lo hi (some g)) w w3) := ((Turned.ofBelow hb2 _).setCell (p := ⟨g, x * 2 + 1, none⟩) hown3.out.2 _).trans (Turned.ofWithin v3 (fun k h1 h2 => Or.inl ⟨h1, by omega⟩))
    clear hfree s3 v3 hmkh
    go_wp2_with fail
    go_ret
    refine ⟨rfl, ⟨⟨sb, ?_⟩, ?_⟩, hT.out⟩
    · rw [hput.out, hhs.out, hcw2.out]
      exact hF.out
    · exact hfr.out

end Go.Proofs.YtjkiagjgnfaknaaDoor
