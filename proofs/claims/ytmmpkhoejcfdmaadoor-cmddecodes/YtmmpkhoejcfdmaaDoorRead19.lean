/- cmd's put and reader, walked. -/
import Derived.Test.YtmmpkhoejcfdmaaDoorParts19
import Derived.Test.YtmmpkhoejcfdmaaDoorPut
import Derived.Test.YtmmpkhoejcfdmaaDoorTake
import Derived.OwnWalk
import Derived.Deep.CutBlock
import Derived.Laws.Rows
import Derived.Laws.OwnMore
namespace Go.Proofs.YtmmpkhoejcfdmaaDoor
open Go.RowKit
set_option linter.unusedVariables false

/-- Outside the blocks of S all is as it was; new blocks may have come. -/
structure Turned (S : Nat → Prop) (w w' : World) : Prop where
  os : w'.os = w.os
  tape : w'.tape = w.tape
  output : w'.output = w.output
  size : w.heap.size ≤ w'.heap.size
  block : ∀ k, k < w.heap.size → ¬ S k → w'.heap[k]? = w.heap[k]?

theorem Turned.refl (S : Nat → Prop) (w : World) : Turned S w w := ⟨rfl, rfl, rfl, Nat.le_refl _, fun _ _ _ => rfl⟩

theorem Turned.trans {S : Nat → Prop} {a b c : World} (h : Turned S a b) (k : Turned S b c) : Turned S a c :=
  ⟨k.os.trans h.os, k.tape.trans h.tape, k.output.trans h.output, Nat.le_trans h.size k.size, fun i hi h1 => (k.block i (Nat.lt_of_lt_of_le hi h.size) h1).trans (h.block i hi h1)⟩

/-- What came new in the meantime may turn too. -/
theorem Turned.then {S S' : Nat → Prop} {a b c : World} (h : Turned S a b) (k : Turned S' b c) (hs : ∀ i, i < a.heap.size → S' i → S i) : Turned S a c :=
  ⟨k.os.trans h.os, k.tape.trans h.tape, k.output.trans h.output, Nat.le_trans h.size k.size, fun i hi h1 => (k.block i (Nat.lt_of_lt_of_le hi h.size) (fun e => h1 (hs i hi e))).trans (h.block i hi h1)⟩

theorem Turned.mono {S S' : Nat → Prop} {w w' : World} (h : Turned S w w') (hs : ∀ k, S k → S' k) : Turned S' w w' :=
  ⟨h.os, h.tape, h.output, h.size, fun k hk ho => h.block k hk (fun e => ho (hs k e))⟩

theorem Turned.ofBelow {w w' : World} (h : Below w.heap.size w w') (S : Nat → Prop) : Turned S w w' := ⟨h.os, h.tape, h.output, h.size, fun k hk _ => h.block k hk⟩

theorem Turned.ofGrown {S : Nat → Prop} {w w' : World} {row : Option Nat} (h : w.grownBy w' row) (hs : ∀ k, row = some k → S k) : Turned S w w' :=
  ⟨h.os, h.tape, h.output, h.size, fun k hk ho => h.block k hk (fun e => ho (hs k e.symm))⟩

theorem Turned.below {S : Nat → Prop} {B : Nat} {w w' : World} (h : Turned S w w') (h1 : ∀ k, S k → B ≤ k) (h2 : B ≤ w.heap.size) : Below B w w' :=
  ⟨h.os, h.tape, h.output, h.size, fun k hk => h.block k (by omega) (fun e => by have := h1 k e; omega)⟩

theorem Turned.drew {S : Nat → Prop} {a w : World} (h : Turned S a w) : Turned S a w.drew := ⟨h.os, h.tape, h.output, h.size, h.block⟩

theorem Turned.setCell {S : Nat → Prop} {a w : World} (h : Turned S a w) {p : Addr} (hp : S p.block) (u : Value) : Turned S a (w.setCell p u) :=
  h.trans ⟨rfl, rfl, rfl, by simp [World.setCell], fun k hk ho => Below.heap_setCell _ _ _ _ (fun e => ho (e ▸ hp))⟩

theorem Turned.alloc {S : Nat → Prop} {a w : World} (h : Turned S a w) (o : Obj) : Turned S a (w.alloc o) :=
  h.trans ⟨rfl, rfl, rfl, by simp, fun k hk _ => Below.heap_alloc _ _ _ hk⟩

theorem Turned.cell {S : Nat → Prop} {w w' : World} (h : Turned S w w') {p : Addr} {v : Value} (hc : w.cell? p = some v) (ho : ¬ S p.block) : w'.cell? p = some v :=
  (World.cell?_of_block (h.block p.block (World.block_lt_of_cell? w p hc) ho)).trans hc

theorem balloc (w : World) (o : Obj) : Below w.heap.size w (w.alloc o) := (Below.refl _ _).alloc (Nat.le_refl _) o

theorem set_block {w : World} {g k : Nat} {cs : Array Value} {t : TypeId} (h : w.heap[g]? = some (.cells cs t (0, 0))) (u : Value) : (w.setCell ⟨g, k, none⟩ u).heap[g]? = some (.cells (cs.setIfInBounds k u) t (0, 0)) := by
  unfold World.setCell
  rw [Array.getElem?_modify, if_pos rfl, h]
  simp

theorem cell_of {w : World} {k j : Nat} {cs : Array Value} {t : TypeId} {c : Nat × Nat} {u : Value} (h : w.heap[k]? = some (.cells cs t c)) (hj : cs[j]? = some u) : w.cell? ⟨k, j, none⟩ = some u := by
  unfold World.cell?
  simp only []
  rw [h]
  simp [hj]

theorem new_of (w : World) (cs : Array Value) (t : TypeId) : (w.alloc (.cells cs t)).heap[w.heap.size]? = some (.cells cs t (0, 0)) := by
  show (w.heap.push _)[w.heap.size]? = _
  simp

theorem frozen_of {w : World} {b k : Nat} {cs : Array Value} {t : TypeId} (h : w.heap[b]? = some (.cells cs t (0, 0))) : w.frozen? ⟨b, k, none⟩ = false := by
  unfold World.frozen?
  rw [h]
  simp

theorem results_cell2 {P : Program} {fn : Func} {p u : Tmp} {ty : TypeId} (h : fn.results = #[.cell p ty, .tmp u]) (tmps : Array Value) (w : World) (g : Nat) (t : TypeId) (cs : Array Value) (fr : Nat × Nat) (d : TypeDesc)
    (hp : tmps.getD p undef = .pointer (some ⟨g, 0, none⟩)) (hg : w.heap[g]? = some (.cells cs t fr))
    (hu : P.underlying ty = some d) (hd : (match d with | .struct _ | .array _ _ => true | _ => false) = true) (hi : (P.info? ty).map (·.size) = some cs.size) :
    (results fn tmps).run P w = .ok (.tuple #[.agg cs, tmps.getD u undef]) w := by
  rw [results_cell_tmp h, hp]
  simp [asAddr, run_loadVar_row w g t ty cs fr d hg hu hd hi]

theorem infoU8 : (Tryd.prog.info? 5).map (fun i => (i.zero, i.size, i.bytes)) = some (some (.int .u8 0), 1, 1) := by kernel_rfl

/-- A row of bytes of one's own. -/
def Bw (base : Nat) (w : World) (v : Value) (l : List UInt8) : Prop := w.ownsRow base 5 1 v l.length (l.map bc)

/-- All but bytes stay. -/
def Kb (base : Nat) (w w' : World) : Prop := Below base w w' ∧ ∀ (k : Nat) (cs : Array Value) (t : TypeId) (c : Nat × Nat), w.heap[k]? = some (Obj.cells cs t c) → t ≠ 5 → w'.heap[k]? = some (Obj.cells cs t c)

theorem Kb.refl (base : Nat) (w : World) : Kb base w w := ⟨Below.refl _ _, fun _ _ _ _ h _ => h⟩
theorem Kb.trans {base : Nat} {a b c : World} (h : Kb base a b) (k : Kb base b c) : Kb base a c := ⟨h.1.trans k.1, fun i cs t d e q => k.2 i cs t d (h.2 i cs t d e q) q⟩
theorem Kb.ofBelow {base : Nat} {w w' : World} (h : Below w.heap.size w w') (hb : base ≤ w.heap.size) : Kb base w w' := ⟨h.mono hb, fun k cs t c e _ => (h.block k (Array.getElem?_eq_some_iff.1 e).1).trans e⟩
theorem Kb.grown {base b n : Nat} {w w' : World} {v : Value} {xs : List Value} (ho : w.ownsRow b 5 1 v n xs) (hg : w.grownBy w' v.ownBlock) (hb : base ≤ b) (hs : base ≤ w.heap.size) : Kb base w w' := by
  refine ⟨(Below.refl base w).grown hg hs (fun k hk => Nat.le_trans hb (own_from ho k hk)), fun k cs t c e ht => ?_⟩
  have h1 := Turned.ofGrown hg (S := fun k => v.ownBlock = some k) (fun k hk => hk)
  rw [h1.block k (Array.getElem?_eq_some_iff.1 e).1 ?_]
  · exact e
  · intro q
    rcases ho.2 with ⟨rfl, _⟩ | ⟨g, cap, cur, rfl, _, hgg, _⟩
    · simp [Value.ownBlock] at q
    · simp [Value.ownBlock] at q
      subst q
      rw [hgg] at e
      injection e with e
      injection e with _ e
      exact ht e.symm

theorem Bw.bytes {base : Nat} {w : World} {v : Value} {l : List UInt8} (h : Bw base w v l) (hl : l.length ≤ 140737488355328) : ∃ ad cap, v = .slice ad l.length cap ∧ Bytes w ad cap l := Bytes.ofOwns h hl

theorem wu64 (i : Nat) (h : i < 18446744073709551616) : IntKind.u64.wrap (i : Int) = (i : Int) := by rw [wrapU]; omega
theorem wu32 (i : Nat) (h : i < 4294967296) : IntKind.u32.wrap (i : Int) = (i : Int) := by rw [wrapU32]; omega

set_option maxRecDepth 100000 in
set_option maxHeartbeats 2000000 in
theorem cput_ok {base : Nat} {w : World} {v : Value} {l : List UInt8} (x N : Nat) (n : Int) (hn : n = (N : Int)) (hb : Bw base w v l) (hbs : base ≤ w.heap.size) (hl : l.length + N ≤ 1000000) (h1 : 1 ≤ N) (h8 : N ≤ 8) (hx : x < 4294967296) :
    Calls Tryd.prog 20 #[v, .int .u32 (x : Int), .int .i64 n] w fun e w' => ∃ v', e = .returned v' ∧ Bw base w' v' (l ++ be N x) ∧ Kb base w w' := by
  subst hn
  obtain ⟨i0, hif, hz0, hz1, hz2⟩ := info_parts infoU8
  have hwx := wu64 x (by omega)
  have hput := hid (put_nil (x : Int) (N : Int) x N w rfl rfl h1 h8)
  replace hb := hid hb
  go_enter Tryd.func20, Tryd.ntmps20
  go_wp2_with fail
  refine hput.out.mono ?_
  rintro e w2 ⟨g, rfl, hg2, b2⟩
  have hown : w2.ownsRow base 5 1 v l.length (l.map bc) := ownsRow_below hb.out b2
  have hk2 := hid (Kb.ofBelow b2 hbs)
  have hs2 := Nat.le_trans hbs b2.size
  clear b2 hput hb
  go_wp2_with (at_builtin; refine wpList_append_bytes _ rfl (.tmp 7) (.tmp 11) 27 rfl base 5 i0 Tryd.underlying27 hif hz0 hz1 hz2 _ l l.length rfl hown _ N N (be N x) rfl (by rw [be_length]) hg2 (by omega) hs2 ?_; intro v' w' ho' hg'; refine Hid.out ?_)
  have hk3 := hid (hk2.out.trans (Kb.grown hown hg' (Nat.le_refl _) hs2))
  have hB3 : Hid (Bw base w' v' (l ++ be N x)) := by
    show World.ownsRow _ _ _ _ _ _ _
    rw [List.length_append, be_length]
    exact ho'
  clear ho' hg' hown hk2 hg2
  refine hid ?_
  go_wp2_with fail
  go_ret
  exact ⟨_, rfl, hB3.out, hk3.out⟩

/-- Only this block turns. -/
abbrev Tb (rb : Nat) (w w' : World) : Prop := Turned (fun k => k = rb) w w'

/-- What a reader has left. -/
def Rd (w : World) (rb : Nat) (l : List UInt8) : Prop := ∃ ad cap, w.heap[rb]? = some (Obj.cells #[.slice ad l.length cap] 70 (0, 0)) ∧ Bytes w ad cap l ∧ ∀ a, ad = some a → 0 < l.length → a.block < rb

theorem bytes_turned {w w' : World} {rb : Nat} {ad : Option Addr} {cap : Nat} {l : List UInt8} (h : Bytes w ad cap l) (hw : Tb rb w w') (ha : ∀ a, ad = some a → 0 < l.length → a.block < rb) : Bytes w' ad cap l :=
  ⟨h.le, h.bound, h.nil, fun a e j u hu => hw.cell (h.cell a e j u hu) (by rw [add_block]; exact Nat.ne_of_lt (ha a e (by have := (List.getElem?_eq_some_iff.1 hu).1; rw [List.length_map] at this; omega)))⟩

theorem bytes_keep {w w' : World} {S : Nat → Prop} {ad : Option Addr} {cap : Nat} {l : List UInt8} (h : Bytes w ad cap l) (hw : Turned S w w') (ha : ∀ a, ad = some a → ¬ S a.block) : Bytes w' ad cap l :=
  ⟨h.le, h.bound, h.nil, fun a e j u hu => hw.cell (h.cell a e j u hu) (by rw [add_block]; exact ha a e)⟩

theorem Rd.more {w w' : World} {rb : Nat} {l : List UInt8} (h : Rd w rb l) (hb : Below w.heap.size w w') : Rd w' rb l := by
  obtain ⟨ad, cap, h1, h2, h3⟩ := h
  exact ⟨ad, cap, (hb.block rb (Array.getElem?_eq_some_iff.1 h1).1).trans h1, h2.below hb, h3⟩

/-- What is kept where later blocks turn. -/
theorem Rd.keep {w w' : World} {rb : Nat} {l : List UInt8} {S : Nat → Prop} (h : Rd w rb l) (hw : Turned S w w') (hs : ∀ k, k ≤ rb → ¬ S k) : Rd w' rb l := by
  obtain ⟨ad, cap, h1, h2, h3⟩ := h
  refine ⟨ad, cap, (hw.block rb (Array.getElem?_eq_some_iff.1 h1).1 (hs rb (Nat.le_refl _))).trans h1, ⟨h2.le, h2.bound, h2.nil, fun a e j u hu => hw.cell (h2.cell a e j u hu) ?_⟩, h3⟩
  rw [add_block]
  exact hs _ (Nat.le_of_lt (h3 a e (by have := (List.getElem?_eq_some_iff.1 hu).1; rw [List.length_map] at this; omega)))

set_option maxRecDepth 100000 in
set_option maxHeartbeats 2000000 in
theorem rd_take {w : World} {rb : Nat} {l : List UInt8} (h : Rd w rb l) (n : Int) (N : Nat) (hn : n = (N : Int)) (h1 : 1 ≤ N) (h8 : N ≤ 4) (hl : N ≤ l.length) :
    Calls Tryd.prog 26 #[.pointer (some ⟨rb, 0, none⟩), .int .i64 n] w fun e w' => e = .returned (.int .u32 (num (l.take N) : Int)) ∧ Rd w' rb (l.drop N) ∧ Tb rb w w' := by
  subst hn
  obtain ⟨ad, cap, hblk, hby, hap⟩ := h
  have c0 : w.cell? ⟨rb, 0, none⟩ = some (.slice ad l.length cap) := cell_of hblk rfl
  have hfz0 := frozen_of hblk (k := 0)
  have hcl := hby.le
  obtain ⟨ln, hln⟩ : ∃ ln, l.length = ln := ⟨_, rfl⟩
  rw [hln] at hblk c0 hcl hl
  have hbnd := hby.bound
  rw [hln] at hbnd
  obtain ⟨a, rfl⟩ : ∃ a, ad = some a := by
    cases ad with
    | some a => exact ⟨a, rfl⟩
    | none => have := hby.nil rfl; omega
  have hw32 : IntKind.u32.wrap ((num (l.take N) : Nat) : Int) = ((num (l.take N) : Nat) : Int) := wu32 _ (Nat.lt_of_lt_of_le (num_take_lt l N) (Nat.pow_le_pow_right (n := 256) (by omega) h8))
  replace hby := hid hby
  replace hblk := hid hblk
  replace hap := hid hap
  have ett : (l.take N).take N = l.take N := by rw [List.take_take, Nat.min_self]
  have hT := hid (by
    have q := take_at (some a) cap N (l.take N) (N : Int) N w (by simp; omega) rfl (hby.out.take N) h1 (by omega) (by simp; omega)
    rw [ett] at q
    exact q)
  clear ett
  obtain ⟨V, hV⟩ : ∃ V, num (l.take N) = V := ⟨_, rfl⟩
  rw [hV] at hw32 hT ⊢
  clear hV
  replace hln := hid hln
  have k1 : (0 : Int) ≤ (N : Int) := by omega
  have k2 : (N : Int) ≤ (ln : Int) := by omega
  have k3 : (N : Int) ≤ (cap : Int) := by omega
  go_enter Tryd.func26, Tryd.ntmps26
  go_wp2_with fail
  refine hT.out.mono ?_
  rintro e1 y1 ⟨g, rfl, _, bs⟩
  have hblk1 := (bs.block rb (Array.getElem?_eq_some_iff.1 hblk.out).1).trans hblk.out
  have d0 := cell_of hblk1 (j := 0) rfl
  have df0 := frozen_of hblk1 (k := 0)
  have hby1 := hid (hby.out.below bs)
  have hTb := hid (Turned.ofBelow bs (fun k => k = rb))
  replace hblk1 := hid hblk1
  clear hT c0 hfz0 bs hblk hby
  by_cases hcN : cap = N
  · subst hcN
    have hb2 := hid (drop_all hby1.out)
    have h0 : ln - cap = 0 := by omega
    have hfin : Hid (Rd (y1.setCell ⟨rb, 0, none⟩ (.slice (some a) 0 0)) rb (l.drop cap) ∧ Tb rb y1 (y1.setCell ⟨rb, 0, none⟩ (.slice (some a) 0 0))) := by
      have hT3 : Tb rb y1 (y1.setCell ⟨rb, 0, none⟩ (.slice (some a) 0 0)) := (Turned.refl (fun k => k = rb) y1).setCell (p := ⟨rb, 0, none⟩) rfl _
      have hap2 : ∀ x, some a = some x → 0 < (l.drop cap).length → x.block < rb := fun x e hl => hap.out x e (by rw [List.length_drop] at hl; omega)
      refine ⟨⟨some a, 0, ?_, bytes_turned hb2.out hT3 hap2, hap2⟩, hT3⟩
      rw [set_block hblk1.out]
      rw [List.length_drop, hln.out, h0]
      rfl
    clear h0
    go_wp2_with fail
    go_ret
    exact ⟨rfl, hfin.out.1, hTb.out.trans hfin.out.2⟩
  · have hb2 := hid (drop_lies hby1.out N hcN)
    have hfin : Hid (Rd (y1.setCell ⟨rb, 0, none⟩ (.slice (some (a.add N)) (ln - N) (cap - N))) rb (l.drop N) ∧ Tb rb y1 (y1.setCell ⟨rb, 0, none⟩ (.slice (some (a.add N)) (ln - N) (cap - N)))) := by
      have hT3 : Tb rb y1 (y1.setCell ⟨rb, 0, none⟩ (.slice (some (a.add N)) (ln - N) (cap - N))) := (Turned.refl (fun k => k = rb) y1).setCell (p := ⟨rb, 0, none⟩) rfl _
      have hap2 : ∀ x, some (a.add N) = some x → 0 < (l.drop N).length → x.block < rb := fun x e hl => by cases e; rw [add_block]; exact hap.out a rfl (by rw [List.length_drop] at hl; omega)
      refine ⟨⟨some (a.add N), cap - N, ?_, bytes_turned hb2.out hT3 hap2, hap2⟩, hT3⟩
      rw [set_block hblk1.out]
      rw [List.length_drop, hln.out]
      rfl
    go_wp2_with fail
    go_ret
    exact ⟨rfl, hfin.out.1, hTb.out.trans hfin.out.2⟩

set_option maxRecDepth 100000 in
set_option maxHeartbeats 2000000 in
theorem rd_handle {w : World} {rb : Nat} {l : List UInt8} (h : Rd w rb l) (hl : 8 ≤ l.length) :
    Calls Tryd.prog 28 #[.pointer (some ⟨rb, 0, none⟩)] w fun e w' => e = .returned (.agg #[.int .u32 (num (l.take 4) : Int), .int .u32 (num ((l.drop 4).take 4) : Int)]) ∧ Rd w' rb (l.drop 8) ∧ Tb rb w w' := by
  have hlt : rb < w.heap.size := by obtain ⟨ad, cap, h1, _⟩ := h; exact (Array.getElem?_eq_some_iff.1 h1).1
  have ha := hid (h.more (balloc w (.cells #[.int .u32 0, .int .u32 0] 31)))
  have hn := new_of w #[.int .u32 0, .int .u32 0] 31
  have hb := balloc w (.cells #[.int .u32 0, .int .u32 0] 31)
  have hs : (w.alloc (.cells #[.int .u32 0, .int .u32 0] 31)).heap.size = w.heap.size + 1 := by simp
  go_enter Tryd.func28, Tryd.ntmps28
  go_upto_region 1 with fail
  obtain ⟨w1, hw1⟩ : ∃ w1, w.alloc (.cells #[.int .u32 0, .int .u32 0] 31) = w1 := ⟨_, rfl⟩
  rw [hw1] at ha hn hb hs ⊢
  clear hw1
  have ht := hid (rd_take ha.out 4 4 rfl (by omega) (by omega) (by omega))
  obtain ⟨R, hR⟩ : ∃ R, w.heap.size = R := ⟨_, rfl⟩
  rw [hR] at hn hlt hs ⊢
  go_wp2_with fail
  refine ht.out.mono ?_
  rintro e1 w2 ⟨rfl, h2, t2⟩
  have hn2 := (t2.block R (by omega) (by omega)).trans hn
  have ht2 := hid (rd_take h2 4 4 rfl (by omega) (by omega) (by rw [List.length_drop]; omega))
  clear ht ha hn
  go_wp2_with fail
  refine ht2.out.mono ?_
  rintro e2 w3 ⟨rfl, h3, t3⟩
  have hs2 := t2.size
  have hn3 := (t3.block R (by omega) (by omega)).trans hn2
  have d0 := cell_of hn3 (j := 0) rfl
  have d1 := cell_of hn3 (j := 1) rfl
  have f0 := frozen_of hn3 (k := 0)
  have f1 := frozen_of hn3 (k := 1)
  have hb3 := hid hb
  replace h3 := hid h3
  replace t2 := hid t2
  replace t3 := hid t3
  clear ht2 h2 hn2 hb
  have hn4 := set_block (set_block hn3 (k := 0) (.int .u32 (num (l.take 4)))) (k := 1) (.int .u32 (num ((l.drop 4).take 4)))
  replace hn4 := hid hn4
  clear hn3
  go_wp2_with fail
  rw [List.drop_drop] at h3
  have S := ((Turned.refl (fun k => k = R) w3).setCell (p := ⟨R, 0, none⟩) rfl (.int .u32 (num (l.take 4)))).setCell (p := ⟨R, 1, none⟩) rfl (.int .u32 (num ((l.drop 4).take 4)))
  obtain ⟨y, hy⟩ : ∃ y, (w3.setCell ⟨R, 0, none⟩ (.int .u32 (num (l.take 4)))).setCell ⟨R, 1, none⟩ (.int .u32 (num ((l.drop 4).take 4))) = y := ⟨_, rfl⟩
  rw [hy] at S hn4 ⊢
  refine bodyPost_ret (results_cell_row rfl _ _ R 31 _ (0, 0) _ rfl hn4.out Tryd.underlying31 rfl (by kernel_rfl)) rfl ?_
  refine ⟨rfl, h3.out.keep S (fun k hk e => by omega), ?_⟩
  have hbw := Turned.ofBelow hb3.out (fun k => k = rb)
  exact ((hbw.trans t2.out).trans t3.out).then S (fun i hi e => by omega)

theorem s32_wrap {n : Nat} (h : n < 4294967296) : wrap32 (IntKind.u32.wrap (n : Int)) = s32 n := by
  rw [wrapU32]
  unfold wrap32 s32
  split <;> omega

set_option maxHeartbeats 400000 in
theorem signed_any (x : Int) (w : World) :
    Calls Tryd.prog 39 #[.int .u64 x] w fun e w' => e = .returned (.int .i32 (wrap32 (IntKind.u32.wrap x))) ∧ w = w' := by
  go_enter Tryd.func39, Tryd.ntmps39
  go_wp2
  go_ret
  exact ⟨rfl, rfl⟩

set_option maxRecDepth 100000 in
set_option maxHeartbeats 2000000 in
theorem rd_signed {w : World} {rb : Nat} {l : List UInt8} (h : Rd w rb l) (hl : 4 ≤ l.length) :
    Calls Tryd.prog 29 #[.pointer (some ⟨rb, 0, none⟩)] w fun e w' => e = .returned (.int .i32 (s32 (num (l.take 4)))) ∧ Rd w' rb (l.drop 4) ∧ Tb rb w w' := by
  have ht := hid (rd_take h 4 4 rfl (by omega) (by omega) hl)
  have hnl : num (l.take 4) < 4294967296 := num_take_lt l 4
  obtain ⟨V, hV⟩ : ∃ V, num (l.take 4) = V := ⟨_, rfl⟩
  rw [hV] at ht hnl ⊢
  have hw := wu64 V (by omega)
  have hsg := hid (signed_any (V : Int))
  have hse := hid (s32_wrap hnl)
  clear hV
  go_enter Tryd.func29, Tryd.ntmps29
  go_wp2_with fail
  refine ht.out.mono ?_
  rintro e1 w2 ⟨rfl, h2, t2⟩
  go_wp2_with fail
  refine (hsg.out _).mono ?_
  rintro e2 w3 ⟨rfl, rfl⟩
  go_wp2_with fail
  go_ret
  exact ⟨by rw [hse.out]; rfl, h2, t2⟩

set_option maxRecDepth 100000 in
set_option maxHeartbeats 2000000 in
theorem rd_rest {w : World} {rb : Nat} {l : List UInt8} (h : Rd w rb l) (hl : l.length ≤ 1000000) :
    Calls Tryd.prog 30 #[.pointer (some ⟨rb, 0, none⟩)] w fun e w' => ∃ ad cap, e = .returned (.slice ad l.length cap) ∧ Bytes w' ad cap l ∧ Below w.heap.size w w' ∧ ∀ a, ad = some a → w.heap.size ≤ a.block := by
  obtain ⟨ad, cap, hblk, hby, hap⟩ := h
  have c0 : w.cell? ⟨rb, 0, none⟩ = some (.slice ad l.length cap) := cell_of hblk rfl
  obtain ⟨i0, hif, hz0, hz1, hz2⟩ := info_parts infoU8
  have hown : w.ownsRow w.heap.size 5 1 (.slice none 0 0) 0 (([] : List UInt8).map bc) := ⟨rfl, .inl ⟨rfl, rfl⟩⟩
  obtain ⟨ln, hln⟩ : ∃ ln, l.length = ln := ⟨_, rfl⟩
  rw [hln] at hblk c0 hl ⊢
  clear hblk hap
  go_enter Tryd.func30, Tryd.ntmps30
  go_wp2_with (at_builtin; refine wpList_append_bytes _ rfl _ (.tmp 6) 27 rfl w.heap.size 5 i0 Tryd.underlying27 hif hz0 hz1 hz2 (.slice none 0 0) [] 0 rfl hown _ ln _ l rfl hln.symm hby (by omega) (Nat.le_refl _) ?_; intro v' w' ho' hg'; refine Hid.out ?_)
  have hb := hid ((Below.refl w.heap.size w).grown hg' (Nat.le_refl _) (by simp [Value.ownBlock]))
  rw [Nat.zero_add, List.nil_append] at ho'
  have hof := own_from ho'
  obtain ⟨ad', cap', rfl, hb'⟩ := Bytes.ofOwns ho' (by omega)
  have hof2 := hid (fun a (e : ad' = some a) => hof a.block (by rw [e]; rfl))
  clear ho' hg' hown hby hof
  refine hid ?_
  go_wp2_with fail
  go_ret
  exact ⟨ad', cap', rfl, hb', hb.out, hof2.out⟩

end Go.Proofs.YtmmpkhoejcfdmaaDoor
