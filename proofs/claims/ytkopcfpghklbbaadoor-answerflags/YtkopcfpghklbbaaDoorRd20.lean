/- answer's reader: take, bit. -/
import Derived.Test.YtkopcfpghklbbaaDoorMem20
import Derived.Test.YtkopcfpghklbbaaDoorCheck20
import Derived.Deep.RegionWith
namespace Go.Proofs.YtkopcfpghklbbaaDoor
open Go.RowKit
set_option linter.unusedVariables false

/-- What a reader has left, and whether something was wrong. -/
def Rb (w : World) (rb : Nat) (l : List UInt8) (q : Bool) : Prop := ∃ ad cap, w.heap[rb]? = some (Obj.cells #[.slice ad l.length cap, .bool q] 100 (0, 0)) ∧ Bytes w ad cap l ∧ ∀ a, ad = some a → 0 < l.length → a.block < rb

theorem Rb.more {w w' : World} {rb : Nat} {l : List UInt8} {q : Bool} (h : Rb w rb l q) (hb : Below w.heap.size w w') : Rb w' rb l q := by
  obtain ⟨ad, cap, h1, h2, h3⟩ := h
  exact ⟨ad, cap, (hb.block rb (Array.getElem?_eq_some_iff.1 h1).1).trans h1, h2.below hb, h3⟩

theorem Rb.lt {w : World} {rb : Nat} {l : List UInt8} {q : Bool} (h : Rb w rb l q) : rb < w.heap.size := by
  obtain ⟨ad, cap, h1, _⟩ := h
  exact (Array.getElem?_eq_some_iff.1 h1).1

/-- What is kept where later blocks turn. -/
theorem Rb.keep {w w' : World} {rb : Nat} {l : List UInt8} {q : Bool} {S : Nat → Prop} (h : Rb w rb l q) (hw : Turned S w w') (hs : ∀ k, k ≤ rb → ¬ S k) : Rb w' rb l q := by
  obtain ⟨ad, cap, h1, h2, h3⟩ := h
  refine ⟨ad, cap, (hw.block rb (Array.getElem?_eq_some_iff.1 h1).1 (hs rb (Nat.le_refl _))).trans h1, ⟨h2.le, h2.bound, h2.nil, fun a e j u hu => hw.cell (h2.cell a e j u hu) ?_⟩, h3⟩
  rw [add_block]
  exact hs _ (Nat.le_of_lt (h3 a e (by have := (List.getElem?_eq_some_iff.1 hu).1; rw [List.length_map] at this; omega)))

set_option maxRecDepth 100000 in
set_option maxHeartbeats 4000000 in
/-- Too few bytes. -/
theorem rb_none {w : World} {rb : Nat} {l : List UInt8} {q : Bool} (h : Rb w rb l q) (N : Nat) {n : Int} (hn : n = (N : Int)) (h1 : 1 ≤ N) (h8 : N ≤ 8) (hl : l.length < N) :
    Calls Tryd.prog 44 #[.pointer (some ⟨rb, 0, none⟩), .int .i64 n] w fun e w' => e = .returned (.int .u64 0) ∧ Rb w' rb l true ∧ Tb rb w w' := by
  subst hn
  obtain ⟨ad, cap, hblk, hby, hap⟩ := h
  have c0 : w.drew.cell? ⟨rb, 0, none⟩ = some (.slice ad l.length cap) := cell_of (w := w.drew) hblk rfl
  have hcl := hby.le
  have hbnd := hby.bound
  have hfin0 : Tb rb w (w.drew.setCell ⟨rb, 1, none⟩ (.bool true)) := ((Turned.refl (fun k => k = rb) w).drew).setCell (p := ⟨rb, 1, none⟩) rfl _
  have hfin : Hid (Rb (w.drew.setCell ⟨rb, 1, none⟩ (.bool true)) rb l true ∧ Tb rb w (w.drew.setCell ⟨rb, 1, none⟩ (.bool true))) := by
    refine ⟨⟨ad, cap, ?_, bytes_turned hby hfin0 hap, hap⟩, hfin0⟩
    rw [set_block (w := w.drew) hblk]
    rfl
  obtain ⟨ln, hln⟩ : ∃ ln, l.length = ln := ⟨_, rfl⟩
  rw [hln] at c0 hcl hl hbnd
  have d1 : w.drew.frozen? ⟨rb, 1, none⟩ = false := frozen_of (w := w.drew) hblk
  have d2 : w.drew.cell? ⟨rb, 1, none⟩ = some (.bool q) := cell_of (w := w.drew) hblk rfl
  have hT := hid (take_end ad ln cap (N : Int) w.drew (by omega) (by omega) (by omega))
  have k1 : (ln : Int) < (N : Int) := by omega
  have k2 : ¬ (N : Int) ≤ (ln : Int) := by omega
  have k3 : (0 : Int) ≤ (ln : Int) := by omega
  have k4 : (ln : Int) ≤ (cap : Int) := by omega
  have k5 : ¬ (N : Int) < (ln : Int) := by omega
  have k6 : min (N : Int) (ln : Int) = (ln : Int) := by omega
  have k7 : (ln : Int) ≤ (N : Int) := by omega
  clear hblk hby hap hln hbnd hfin0 hcl
  go_enter Tryd.func44, Tryd.ntmps44
  go_wp2_with fail
  go_region_with (go_at_call 69; refine hT.out.mono ?_; rintro e1 y1 ⟨rfl, rfl⟩)
  all_goals
    go_wp2_with fail
    go_ret
    exact ⟨rfl, hfin.out⟩

set_option maxRecDepth 100000 in
set_option maxHeartbeats 4000000 in
/-- As many bytes as are asked for. -/
theorem rb_take {w : World} {rb : Nat} {l : List UInt8} {q : Bool} (h : Rb w rb l q) (N : Nat) {n : Int} (hn : n = (N : Int)) (h1 : 1 ≤ N) (h8 : N ≤ 8) (hl : N ≤ l.length) :
    Calls Tryd.prog 44 #[.pointer (some ⟨rb, 0, none⟩), .int .i64 n] w fun e w' => e = .returned (.int .u64 (num (l.take N) : Int)) ∧ Rb w' rb (l.drop N) q ∧ Tb rb w w' := by
  subst hn
  obtain ⟨ad, cap, hblk, hby, hap⟩ := h
  have c0 : w.drew.cell? ⟨rb, 0, none⟩ = some (.slice ad l.length cap) := cell_of (w := w.drew) hblk rfl
  have hcl := hby.le
  obtain ⟨ln, hln⟩ : ∃ ln, l.length = ln := ⟨_, rfl⟩
  rw [hln] at hblk c0 hcl hl
  have hbnd := hby.bound
  rw [hln] at hbnd
  obtain ⟨a, rfl⟩ : ∃ a, ad = some a := by
    cases ad with
    | some a => exact ⟨a, rfl⟩
    | none => have := hby.nil rfl; omega
  replace hby := hid hby
  replace hblk := hid hblk
  replace hap := hid hap
  have ett : (l.take N).take N = l.take N := by rw [List.take_take, Nat.min_self]
  have hbd : Bytes w.drew (some a) cap l := hby.out.below (Below.refl _ _).drew
  have hT := hid (by
    have q := take_at (some a) cap N (l.take N) (N : Int) N w.drew (by simp; omega) rfl (hbd.take N) h1 (by omega) (by simp; omega)
    rw [ett] at q
    exact q)
  clear ett
  obtain ⟨V, hV⟩ : ∃ V, num (l.take N) = V := ⟨_, rfl⟩
  rw [hV] at hT ⊢
  clear hV hbd
  replace hln := hid hln
  have k1 : (0 : Int) ≤ (N : Int) := by omega
  have k2 : (N : Int) ≤ (ln : Int) := by omega
  have k3 : (N : Int) ≤ (cap : Int) := by omega
  have k6 : min (N : Int) (ln : Int) = (N : Int) := by omega
  have k7 : ¬ (ln : Int) < (N : Int) := by omega
  go_enter Tryd.func44, Tryd.ntmps44
  go_wp2_with fail
  go_region_with (go_at_call 69; refine hT.out.mono ?_; rintro e1 y1 ⟨g, rfl, _, bs0⟩; have bs : Below w.heap.size w y1 := (Below.refl w.heap.size w).drew.trans bs0; clear bs0; have hblk1 := (bs.block rb (Array.getElem?_eq_some_iff.1 hblk.out).1).trans hblk.out; have d0 := cell_of hblk1 (j := 0) rfl; have df0 := frozen_of hblk1 (k := 0); have hby1 := hid (hby.out.below bs); have hTb := hid (Turned.ofBelow bs (fun k => k = rb)); replace hblk1 := hid hblk1; clear bs)
  all_goals
    clear hT c0 hblk hby
    by_cases hcN : cap = N
    · subst hcN
      have hb2 := hid (drop_all hby1.out)
      have h0 : ln - cap = 0 := by omega
      have hfin : Hid (Rb (y1.setCell ⟨rb, 0, none⟩ (.slice (some a) 0 0)) rb (l.drop cap) q ∧ Tb rb y1 (y1.setCell ⟨rb, 0, none⟩ (.slice (some a) 0 0))) := by
        have hT3 : Tb rb y1 (y1.setCell ⟨rb, 0, none⟩ (.slice (some a) 0 0)) := (Turned.refl (fun k => k = rb) y1).setCell (p := ⟨rb, 0, none⟩) rfl _
        have hap2 : ∀ x, some a = some x → 0 < (l.drop cap).length → x.block < rb := fun x e hl => hap.out x e (by rw [List.length_drop] at hl; omega)
        refine ⟨⟨some a, 0, ?_, bytes_turned hb2.out hT3 hap2, hap2⟩, hT3⟩
        rw [set_block hblk1.out]
        rw [List.length_drop, hln.out, h0]
        rfl
      clear h0
      go_wp2_with fail
      go_ret
      exact ⟨rfl, hfin.out.1, hTb.out.trans hfin.out.2⟩
    · have hb2 := hid (drop_lies hby1.out N hcN)
      have hfin : Hid (Rb (y1.setCell ⟨rb, 0, none⟩ (.slice (some (a.add N)) (ln - N) (cap - N))) rb (l.drop N) q ∧ Tb rb y1 (y1.setCell ⟨rb, 0, none⟩ (.slice (some (a.add N)) (ln - N) (cap - N)))) := by
        have hT3 : Tb rb y1 (y1.setCell ⟨rb, 0, none⟩ (.slice (some (a.add N)) (ln - N) (cap - N))) := (Turned.refl (fun k => k = rb) y1).setCell (p := ⟨rb, 0, none⟩) rfl _
        have hap2 : ∀ x, some (a.add N) = some x → 0 < (l.drop N).length → x.block < rb := fun x e hl => by cases e; rw [add_block]; exact hap.out a rfl (by rw [List.length_drop] at hl; omega)
        refine ⟨⟨some (a.add N), cap - N, ?_, bytes_turned hb2.out hT3 hap2, hap2⟩, hT3⟩
        rw [set_block hblk1.out]
        rw [List.length_drop, hln.out]
        rfl
      go_wp2_with fail
      go_ret
      exact ⟨rfl, hfin.out.1, hTb.out.trans hfin.out.2⟩

/-- What a number is, and what is left: nothing is taken where there are too few. -/
def nm20 (N : Nat) (l : List UInt8) : Nat := if N ≤ l.length then num (l.take N) else 0
def lf20 (N : Nat) (l : List UInt8) : List UInt8 := if N ≤ l.length then l.drop N else l
def er20 (N : Nat) (l : List UInt8) (q : Bool) : Bool := if N ≤ l.length then q else true

theorem rb_any {w : World} {rb : Nat} {l : List UInt8} {q : Bool} (h : Rb w rb l q) (N : Nat) {n : Int} (hn : n = (N : Int)) (h1 : 1 ≤ N) (h8 : N ≤ 8) :
    Calls Tryd.prog 44 #[.pointer (some ⟨rb, 0, none⟩), .int .i64 n] w fun e w' => e = .returned (.int .u64 (nm20 N l : Int)) ∧ Rb w' rb (lf20 N l) (er20 N l q) ∧ Tb rb w w' := by
  unfold nm20 lf20 er20
  by_cases hl : N ≤ l.length
  · rw [if_pos hl, if_pos hl, if_pos hl]
    exact rb_take h N hn h1 h8 hl
  · rw [if_neg hl, if_neg hl, if_neg hl]
    exact rb_none h N hn h1 h8 (by omega)

set_option maxRecDepth 100000 in
set_option maxHeartbeats 4000000 in
theorem rb_bit {w : World} {rb : Nat} {l : List UInt8} {q : Bool} (h : Rb w rb l q) :
    Calls Tryd.prog 47 #[.pointer (some ⟨rb, 0, none⟩)] w fun e w' => e = .returned (.bool (decide (nm20 1 l = 1))) ∧ Rb w' rb (lf20 1 l) (er20 1 l q || decide (1 < nm20 1 l)) ∧ Tb rb w w' := by
  have hk := hid (rb_any h 1 (n := 1) rfl (by omega) (by omega))
  obtain ⟨V, hV⟩ : ∃ V, nm20 1 l = V := ⟨_, rfl⟩
  obtain ⟨L, hL⟩ : ∃ L, lf20 1 l = L := ⟨_, rfl⟩
  obtain ⟨E, hE⟩ : ∃ E, er20 1 l q = E := ⟨_, rfl⟩
  rw [hV, hL, hE] at hk
  rw [hV, hL, hE]
  clear hV hL hE h
  obtain ⟨R, hR0⟩ : ∃ R, (E || decide (1 < V)) = R := ⟨_, rfl⟩
  obtain ⟨B, hB0⟩ : ∃ B, decide (V = 1) = B := ⟨_, rfl⟩
  rw [hR0, hB0]
  replace hR0 := hid hR0
  replace hB0 := hid hB0
  go_enter Tryd.func47, Tryd.ntmps47
  go_wp2_with fail
  refine hk.out.mono ?_
  rintro e w2 ⟨rfl, hR, hT⟩
  obtain ⟨ad, cap, hblk, hby, hap⟩ := hR
  have d1 := cell_of hblk (j := 1) rfl
  have f1 := frozen_of hblk (k := 1)
  have hset : ∀ r : Bool, Hid (Rb (w2.setCell ⟨rb, 1, none⟩ (.bool r)) rb L r ∧ Tb rb w (w2.setCell ⟨rb, 1, none⟩ (.bool r))) := fun r => by
    have hT3 : Tb rb w2 (w2.setCell ⟨rb, 1, none⟩ (.bool r)) := (Turned.refl (fun k => k = rb) w2).setCell (p := ⟨rb, 1, none⟩) rfl _
    refine ⟨⟨ad, cap, ?_, bytes_turned hby hT3 hap, hap⟩, hT.trans hT3⟩
    rw [set_block hblk]
    rfl
  clear hk hblk hby hap hT
  have hs := hset R
  have g2 : Hid (((V : Int) == 1) = B) := by
    show _ = _
    rw [← hB0.out]
    by_cases h : V = 1
    · subst h; rfl
    · have : decide (V = 1) = false := decide_eq_false h
      rw [this]; simp; omega
  clear hset hB0
  cases E
  · by_cases g : 1 < V
    · have g1 : (1 : Int) < (V : Int) := by omega
      have hRt : R = true := by rw [← hR0.out]; simp [g]
      subst hRt
      clear g hR0
      go_wp2_with fail
      go_ret
      exact ⟨congrArg (fun b => Ending.returned (Value.bool b)) g2.out, hs.out⟩
    · have g1 : ¬ (1 : Int) < (V : Int) := by omega
      have g3 : decide ((1 : Int) < (V : Int)) = false := decide_eq_false g1
      have hRt : R = false := by rw [← hR0.out]; simp [g]
      subst hRt
      clear g hR0
      go_wp2_with fail
      go_ret
      exact ⟨congrArg (fun b => Ending.returned (Value.bool b)) g2.out, hs.out⟩
  · have hRt : R = true := by rw [← hR0.out]; simp
    subst hRt
    clear hR0
    go_wp2_with fail
    go_ret
    exact ⟨congrArg (fun b => Ending.returned (Value.bool b)) g2.out, hs.out⟩

end Go.Proofs.YtkopcfpghklbbaaDoor
