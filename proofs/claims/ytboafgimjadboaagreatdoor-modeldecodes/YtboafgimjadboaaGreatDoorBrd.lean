/- model's put, putPlace, putEdge, walked. model's reader: take and number, walked. model's reader: number, many, place, edge, walked. model's reader: edge, walked. model's putPlace, walked. model's putEdge, walked. -/
import Derived.Test.YtboafgimjadboaaGreatDoorBmem
import Derived.Test.YtboafgimjadboaaGreatDoorBmm
import Derived.Test.YtboafgimjadboaaGreatDoorWiBtake
import Derived.Laws.Rows
namespace Go.Proofs.YtboafgimjadboaaGreatDoor
open Go.RowKit
set_option linter.unusedVariables false
open Wi (be be_length bc)

theorem infoU8 : (Tryz.prog.info? 5).map (fun i => (i.zero, i.size, i.bytes)) = some (some (.int .u8 0), 1, 1) := by kernel_rfl

/-- A row of bytes of one's own. -/
def Bw (base : Nat) (w : World) (v : Value) (l : List UInt8) : Prop := w.ownsRow base 5 1 v l.length (l.map bc)

/-- All but bytes stay. -/
def Kb (base : Nat) (w w' : World) : Prop := Below base w w' ∧ ∀ (k : Nat) (cs : Array Value) (t : TypeId) (c : Nat × Nat), w.heap[k]? = some (Obj.cells cs t c) → t ≠ 5 → w'.heap[k]? = some (Obj.cells cs t c)

theorem Kb.refl (base : Nat) (w : World) : Kb base w w := ⟨Below.refl _ _, fun _ _ _ _ h _ => h⟩
theorem Kb.trans {base : Nat} {a b c : World} (h : Kb base a b) (k : Kb base b c) : Kb base a c := ⟨h.1.trans k.1, fun i cs t d e q => k.2 i cs t d (h.2 i cs t d e q) q⟩
theorem Kb.ofBelow {base : Nat} {w w' : World} (h : Below w.heap.size w w') (hb : base ≤ w.heap.size) : Kb base w w' := ⟨h.mono hb, fun k cs t c e _ => (h.block k (Array.getElem?_eq_some_iff.1 e).1).trans e⟩
theorem Kb.grown {base b n : Nat} {w w' : World} {v : Value} {xs : List Value} (ho : w.ownsRow b 5 1 v n xs) (hg : w.grownBy w' v.ownBlock) (hb : base ≤ b) (hs : base ≤ w.heap.size) : Kb base w w' := by
  refine ⟨(Below.refl base w).grown hg hs (fun k hk => Nat.le_trans hb (ho.lt k hk).1), fun k cs t c e ht => ?_⟩
  have h1 := Ar.Turned.ofGrown hg (S := fun k => v.ownBlock = some k) (fun k hk => hk)
  rw [h1.block k (Array.getElem?_eq_some_iff.1 e).1 ?_]
  · exact e
  · intro q
    rcases ho.2 with ⟨rfl, _⟩ | ⟨g, cap, cur, rfl, _, hgg, _⟩
    · simp [Value.ownBlock] at q
    · simp [Value.ownBlock] at q
      subst q
      rw [hgg] at e
      injection e with e
      injection e with _ e
      exact ht e.symm

theorem Bw.bytes {base : Nat} {w : World} {v : Value} {l : List UInt8} (h : Bw base w v l) (hl : l.length ≤ 1000000) : ∃ ad cap, v = .slice ad l.length cap ∧ Wi.Bytes w ad cap l := Wi.Bytes.ofOwns h (by omega)

theorem cell_of {w : World} {k j : Nat} {cs : Array Value} {t : TypeId} {c : Nat × Nat} {u : Value} (h : w.heap[k]? = some (.cells cs t c)) (hj : cs[j]? = some u) : w.cell? ⟨k, j, none⟩ = some u := by
  unfold World.cell?
  simp only []
  rw [h]
  simp [hj]

theorem new_of (w : World) (cs : Array Value) (t : TypeId) : (w.alloc (.cells cs t)).heap[w.heap.size]? = some (.cells cs t (0, 0)) := by
  show (w.heap.push _)[w.heap.size]? = _
  simp

set_option maxRecDepth 100000 in
set_option maxHeartbeats 4000000 in
theorem put17_ok {base : Nat} {w : World} {v : Value} {l : List UInt8} {vb n : Nat} {xs : List Nat} {c : Nat × Nat} (hb : Bw base w v l) (hbs : base ≤ w.heap.size) (hl : l.length + 4 * n ≤ 1000000) (hn : xs.length = n) (hx : ∀ x, x ∈ xs → x < 4294967296) (hc : w.heap[vb]? = some (.cells (xs.map (fun x : Nat => Value.int .u32 (x : Int))).toArray 56 c)) :
    Calls Tryz.prog 36 #[v, .slice (some ⟨vb, 0, none⟩) n n] w fun e w' => ∃ v', e = .returned v' ∧ Bw base w' v' (l ++ xs.flatMap (be 4)) ∧ Kb base w w' := by
  obtain ⟨i0, hif, hz0, hz1, hz2⟩ := info_parts infoU8
  have hnh := hid hn
  replace hb := hid hb
  replace hc := hid hc
  replace hx := hid hx
  clear hn
  go_enter Tryz.func36, Tryz.ntmps36
  go_wp2_with fail
  go_loopw [0, 6, 9] (fun u _ s9 wr => ∃ i : Nat, i ≤ n ∧ s9 = .int .i64 (i : Int) ∧ Hid (Bw base wr u (l ++ (xs.take i).flatMap (be 4)) ∧ Kb base w wr)) (fun _ _ s9 _ => n - (intOf s9).toNat)
  case atStart => exact ⟨0, by omega, by go_num, by simpa using hb.out, Kb.refl _ _⟩
  case round =>
    obtain ⟨i, hi, rfl, hst⟩ := hrel
    rcases Nat.lt_or_ge i n with hlt | hge
    · obtain ⟨x, hxi⟩ : ∃ x, xs[i]? = some x := ⟨_, List.getElem?_eq_getElem (by rw [hnh.out]; exact hlt)⟩
      have hx2 := hx.out x (List.mem_of_getElem? hxi)
      have hcell : wr.cell? ⟨vb, i, none⟩ = some (.int .u32 (x : Int)) := cell_of (hst.out.2.2 _ _ _ _ hc.out (by decide)) (by simp [hxi])
      have hwx := wu64 x (by omega)
      have j1 : (0 : Int) ≤ (i : Int) := by omega
      have j2 : (i : Int) < (n : Int) := by omega
      have hlen : Hid ((l ++ (xs.take i).flatMap (be 4)).length = l.length + 4 * i) := by
        have : ∀ ys : List Nat, (ys.flatMap (be 4)).length = 4 * ys.length := fun ys => by
          induction ys with
          | nil => rfl
          | cons y ys ih => rw [List.flatMap_cons, List.length_append, be_length, ih, List.length_cons]; omega
        show _ = _
        rw [List.length_append, this, List.length_take, hnh.out]
        omega
      have hnew : Hid (l ++ (xs.take (i + 1)).flatMap (be 4) = (l ++ (xs.take i).flatMap (be 4)) ++ be 4 x) := by
        show _ = _
        rw [List.take_add_one, hxi]
        simp
      have hput := hid (fun y => Wi.put_nil (x : Int) 4 x 4 y rfl rfl (by omega) (by omega))
      have hbsr := Nat.le_trans hbs hst.out.2.1.size
      generalize hlg : l ++ (xs.take i).flatMap (be 4) = lg at hst hlen hnew
      clear hxi hlg
      go_wp2_with fail
      refine (hput.out wr).mono ?_
      rintro e w2 ⟨g, rfl, hg2, b2⟩
      have hown : w2.ownsRow base 5 1 u0 lg.length (lg.map bc) := ownsRow_below hst.out.1 b2
      have hk2 := hid (hst.out.2.trans (Kb.ofBelow b2 hbsr))
      have hs2 := Nat.le_trans hbsr b2.size
      have hll := hlen.out
      clear hcell b2 hput hst
      go_wp2_with (at_builtin; refine Wi.wpList_append_bytes _ rfl (.tmp 13) (.tmp 16) 43 rfl base 5 i0 Tryz.underlying43 hif hz0 hz1 hz2 _ lg lg.length rfl hown _ 4 4 (be 4 x) rfl (by rw [be_length]) hg2 (by omega) hs2 ?_; intro v' w' ho' hg'; refine Hid.out ?_)
      have hk3 := hid (hk2.out.trans (Kb.grown hown hg' (Nat.le_refl _) hs2))
      have hB3 : Hid (Bw base w' v' (l ++ (xs.take (i + 1)).flatMap (be 4))) := by
        rw [hnew.out]
        show World.ownsRow _ _ _ _ _ _ _
        rw [List.length_append, be_length]
        exact ho'
      clear ho' hg' hown hk2 hg2
      refine hid ?_
      go_wp2_with fail
      go_roundw
      case rel => exact ⟨i + 1, by omega, by go_num, hB3.out, hk3.out⟩
      case measure => simp [intOf]; omega
    · obtain rfl : i = n := by omega
      go_wp2_with fail
      go_ret
      refine ⟨_, rfl, ?_, hst.out.2⟩
      have := hst.out.1
      rwa [← hnh.out, List.take_length] at this

end Go.Proofs.YtboafgimjadboaaGreatDoor

namespace Go.Proofs.YtboafgimjadboaaGreatDoor
open Go.RowKit
set_option linter.unusedVariables false
open Wi (be be_length bc)

/-- Only these turn. -/
abbrev Tb (rb : Nat) (w w' : World) : Prop := Ar.Turned (fun k => k = rb) w w'

/-- What a reader has left, and whether all was right. -/
def Rd (w : World) (rb : Nat) (l : List UInt8) (z : Bool) : Prop := ∃ ad cap, w.heap[rb]? = some (Obj.cells #[.slice ad l.length cap, .bool z] 93 (0, 0)) ∧ Wi.Bytes w ad cap l ∧ ∀ a, ad = some a → 0 < l.length → a.block < rb

theorem frozen_of {w : World} {b k : Nat} {cs : Array Value} {t : TypeId} (h : w.heap[b]? = some (.cells cs t (0, 0))) : w.frozen? ⟨b, k, none⟩ = false := by
  unfold World.frozen?
  rw [h]
  simp

theorem bytes_turned {w w' : World} {rb : Nat} {ad : Option Addr} {cap : Nat} {l : List UInt8} (h : Wi.Bytes w ad cap l) (hw : Tb rb w w') (ha : ∀ a, ad = some a → 0 < l.length → a.block < rb) : Wi.Bytes w' ad cap l :=
  ⟨h.le, h.bound, h.nil, fun a e j u hu => hw.cell (h.cell a e j u hu) (by rw [Wi.add_block]; exact Nat.ne_of_lt (ha a e (by have := (List.getElem?_eq_some_iff.1 hu).1; rw [List.length_map] at this; omega)))⟩

theorem Rd.more {w w' : World} {rb : Nat} {l : List UInt8} {z : Bool} (h : Rd w rb l z) (hb : Below w.heap.size w w') : Rd w' rb l z := by
  obtain ⟨ad, cap, h1, h2, h3⟩ := h
  exact ⟨ad, cap, (hb.block rb (Array.getElem?_eq_some_iff.1 h1).1).trans h1, h2.below hb, h3⟩

/-- What is kept where later blocks turn. -/
theorem Rd.keep {w w' : World} {rb : Nat} {l : List UInt8} {z : Bool} {S : Nat → Prop} (h : Rd w rb l z) (hw : Ar.Turned S w w') (hs : ∀ k, k ≤ rb → ¬ S k) : Rd w' rb l z := by
  obtain ⟨ad, cap, h1, h2, h3⟩ := h
  refine ⟨ad, cap, (hw.block rb (Array.getElem?_eq_some_iff.1 h1).1 (hs rb (Nat.le_refl _))).trans h1, ⟨h2.le, h2.bound, h2.nil, fun a e j u hu => hw.cell (h2.cell a e j u hu) ?_⟩, h3⟩
  rw [Wi.add_block]
  exact hs _ (Nat.le_of_lt (h3 a e (by have := (List.getElem?_eq_some_iff.1 hu).1; rw [List.length_map] at this; omega)))

/-- A number off the bytes. -/
def tkv (N : Nat) (l : List UInt8) : Nat := if N ≤ l.length then Wi.num (l.take N) else 0
def tkl (N : Nat) (l : List UInt8) : List UInt8 := if N ≤ l.length then l.drop N else l
def tkw (N : Nat) (l : List UInt8) (z : Bool) : Bool := if N ≤ l.length then z else true

theorem tkv_lt (N : Nat) (l : List UInt8) : tkv N l < 256 ^ N := by
  unfold tkv
  split
  · next h =>
    have := Wi.num_lt (l.take N)
    rwa [List.length_take, Nat.min_eq_left h] at this
  · exact Nat.pow_pos (by omega)

set_option maxRecDepth 100000 in
set_option maxHeartbeats 1000000 in
theorem rd_take {w : World} {rb : Nat} {l : List UInt8} {z : Bool} (h : Rd w rb l z) (n : Int) (N : Nat) (hn : n = (N : Int)) (h1 : 1 ≤ N) (h8 : N ≤ 8) :
    Calls Tryz.prog 71 #[.pointer (some ⟨rb, 0, none⟩), .int .i64 n] w fun e w' => e = .returned (.int .u64 (tkv N l : Int)) ∧ Rd w' rb (tkl N l) (tkw N l z) ∧ Tb rb w w' := by
  subst hn
  obtain ⟨ad, cap, hblk, hby, hap⟩ := h
  have c0 := cell_of hblk (j := 0) rfl
  have hfz0 := frozen_of hblk (k := 0)
  have hfz1 := frozen_of hblk (k := 1)
  have c1 := cell_of hblk (j := 1) rfl
  have hcl := hby.le
  obtain ⟨ln, hln⟩ : ∃ ln, l.length = ln := ⟨_, rfl⟩
  rw [hln] at hblk c0 hcl
  have hbnd := hby.bound
  rw [hln] at hbnd
  replace hby := hid hby
  replace hblk := hid hblk
  replace hap := hid hap
  by_cases hN : N ≤ ln
  · obtain ⟨a, rfl⟩ : ∃ a, ad = some a := by
      cases ad with
      | some a => exact ⟨a, rfl⟩
      | none => have := hby.out.nil rfl; omega
    have e1 : Hid (tkv N l = Wi.num (l.take N) ∧ tkl N l = l.drop N ∧ tkw N l z = z) := by unfold tkv tkl tkw; rw [if_pos (by omega), if_pos (by omega), if_pos (by omega)]; exact ⟨rfl, rfl, rfl⟩
    have m1 : min (N : Int) (ln : Int) = (N : Int) := by omega
    have t1 : decide ((N : Int) ≤ (ln : Int)) = true := decide_eq_true (by omega)
    have hS : Hid (∀ y, Below w.heap.size w y → y.cell? ⟨rb, 0, none⟩ = some (.slice (some a) ln cap)) := fun y hy => (hy.cell (World.block_lt_of_cell? w _ c0)).trans c0
    have ett : (l.take N).take N = l.take N := by rw [List.take_take, Nat.min_self]
    have hT := hid (fun (y : World) (hy : Below w.heap.size w y) => by
      have q := Wi.take_at (some a) cap N (l.take N) (N : Int) N y (by simp; omega) rfl ((hby.out.below hy).take N) h1 h8 (by simp; omega)
      rw [ett] at q
      exact q)
    clear ett
    replace hln := hid hln
    have k1 : (0 : Int) ≤ (N : Int) := by omega
    have k2 : (N : Int) ≤ (ln : Int) := by omega
    have k3 : (N : Int) ≤ (cap : Int) := by omega
    have k4 : ¬ ((ln : Int) < (N : Int)) := by omega
    have k5 : ¬ (ln < N) := by omega
    have k6 : (if (ln : Int) < (N : Int) then (ln : Int) else (N : Int)) = (N : Int) := if_neg k4
    go_enter Tryz.func71, Tryz.ntmps71
    go_upto_region 1 with fail
    go_region_held3 (fun w' => w'.cell? ⟨rb, 0, none⟩ = some (.slice (some a) ln cap)) (first | with_reducible exact hS.out _ (Below.refl _ _).drew | with_reducible exact hS.out _ bA | go_keep) ((go_at_call 95; refine (hT.out _ (Below.refl _ _).drew).mono ?_; rintro e1 y1 ⟨g, rfl, _, bs⟩; have bA : Below w.heap.size w y1 := (Below.refl w.heap.size w).drew.trans bs; clear bs))
    all_goals
      have hblk1 := (bA.block rb (Array.getElem?_eq_some_iff.1 hblk.out).1).trans hblk.out
      have d0 := cell_of hblk1 (j := 0) rfl
      have df0 := frozen_of hblk1 (k := 0)
      have hby1 := hid (hby.out.below bA)
      have hTb := hid (Ar.Turned.ofBelow bA (fun k => k = rb))
      replace hblk1 := hid hblk1
      clear hS hT c0 c1 hfz0 hfz1 bA
      by_cases hcN : cap = N
      · subst hcN
        have hln' : ln = cap := by omega
        have hb2 := hid (Wi.drop_all hby1.out)
        have h0 : ln - cap = 0 := by omega
        have hfin : Hid (Rd (y1.setCell ⟨rb, 0, none⟩ (.slice (some a) 0 0)) rb (l.drop cap) z ∧ Tb rb y1 (y1.setCell ⟨rb, 0, none⟩ (.slice (some a) 0 0))) := by
          have hT3 : Tb rb y1 (y1.setCell ⟨rb, 0, none⟩ (.slice (some a) 0 0)) := (Ar.Turned.refl (fun k => k = rb) y1).setCell (p := ⟨rb, 0, none⟩) rfl _
          have hap2 : ∀ x, some a = some x → 0 < (l.drop cap).length → x.block < rb := fun x e hl => hap.out x e (by rw [List.length_drop] at hl; omega)
          refine ⟨⟨some a, 0, ?_, bytes_turned hb2.out hT3 hap2, hap2⟩, hT3⟩
          rw [set_block hblk1.out]
          rw [List.length_drop, hln.out, h0]
          rfl
        clear h0
        go_wp2_with fail
        go_ret
        rw [e1.out.1, e1.out.2.1, e1.out.2.2]
        exact ⟨rfl, hfin.out.1, hTb.out.trans hfin.out.2⟩
      · have hb2 := hid (Wi.drop_lies hby1.out N hcN)
        have hfin : Hid (Rd (y1.setCell ⟨rb, 0, none⟩ (.slice (some (a.add N)) (ln - N) (cap - N))) rb (l.drop N) z ∧ Tb rb y1 (y1.setCell ⟨rb, 0, none⟩ (.slice (some (a.add N)) (ln - N) (cap - N)))) := by
          have hT3 : Tb rb y1 (y1.setCell ⟨rb, 0, none⟩ (.slice (some (a.add N)) (ln - N) (cap - N))) := (Ar.Turned.refl (fun k => k = rb) y1).setCell (p := ⟨rb, 0, none⟩) rfl _
          have hap2 : ∀ x, some (a.add N) = some x → 0 < (l.drop N).length → x.block < rb := fun x e hl => by cases e; rw [Wi.add_block]; exact hap.out a rfl (by rw [List.length_drop] at hl; omega)
          refine ⟨⟨some (a.add N), cap - N, ?_, bytes_turned hb2.out hT3 hap2, hap2⟩, hT3⟩
          rw [set_block hblk1.out]
          rw [List.length_drop, hln.out]
          rfl
        go_wp2_with fail
        go_ret
        rw [e1.out.1, e1.out.2.1, e1.out.2.2]
        exact ⟨rfl, hfin.out.1, hTb.out.trans hfin.out.2⟩
  · have e1 : Hid (tkv N l = 0 ∧ tkl N l = l ∧ tkw N l z = true) := by unfold tkv tkl tkw; rw [if_neg (by omega), if_neg (by omega), if_neg (by omega)]; exact ⟨rfl, rfl, rfl⟩
    have hS : Hid (∀ y, Below w.heap.size w y → y.cell? ⟨rb, 0, none⟩ = some (.slice ad ln cap)) := fun y hy => (hy.cell (World.block_lt_of_cell? w _ c0)).trans c0
    have hT := hid (fun (y : World) => Wi.take_end ad ln cap (N : Int) y (by omega) (by omega) (by omega))
    replace hln := hid hln
    have k1 : (0 : Int) ≤ (ln : Int) := by omega
    have k3 : (ln : Int) ≤ (cap : Int) := by omega
    have k4 : ((ln : Int) < (N : Int)) := by omega
    have k5 : (ln < N) := by omega
    have k6 : (if (ln : Int) < (N : Int) then (ln : Int) else (N : Int)) = (ln : Int) := if_pos k4
    go_enter Tryz.func71, Tryz.ntmps71
    go_upto_region 1 with fail
    go_region_held3 (fun w' => w'.cell? ⟨rb, 0, none⟩ = some (.slice ad ln cap)) (first | with_reducible exact hS.out _ (Below.refl _ _).drew | go_keep) ((go_at_call 95; refine (hT.out _).mono ?_; rintro e1 y1 ⟨rfl, rfl⟩))
    all_goals
      have hdr : Below w.heap.size w w.drew := (Below.refl _ _).drew
      generalize w.drew = y1 at hdr ⊢
      have hblk1 := (hdr.block rb (Array.getElem?_eq_some_iff.1 hblk.out).1).trans hblk.out
      have d1 := cell_of hblk1 (j := 1) rfl
      have df1 := frozen_of hblk1 (k := 1)
      have hby1 := hid (hby.out.below hdr)
      have hTb := hid (Ar.Turned.ofBelow hdr (fun k => k = rb))
      replace hblk1 := hid hblk1
      clear hS hT c0 c1 hfz0 hfz1 hdr
      have hfin : Hid (Rd (y1.setCell ⟨rb, 1, none⟩ (.bool true)) rb l true ∧ Tb rb y1 (y1.setCell ⟨rb, 1, none⟩ (.bool true))) := by
        have hT3 : Tb rb y1 (y1.setCell ⟨rb, 1, none⟩ (.bool true)) := (Ar.Turned.refl (fun k => k = rb) y1).setCell (p := ⟨rb, 1, none⟩) rfl _
        refine ⟨⟨ad, cap, ?_, bytes_turned hby1.out hT3 hap.out, hap.out⟩, hT3⟩
        rw [set_block hblk1.out, hln.out]
        rfl
      go_wp2_with fail
      go_ret
      rw [e1.out.1, e1.out.2.1, e1.out.2.2]
      exact ⟨rfl, hfin.out.1, hTb.out.trans hfin.out.2⟩

end Go.Proofs.YtboafgimjadboaaGreatDoor

namespace Go.Proofs.YtboafgimjadboaaGreatDoor
open Go.RowKit
set_option linter.unusedVariables false
open Wi (be be_length bc)

set_option maxRecDepth 100000 in
set_option maxHeartbeats 1000000 in
theorem rd_number {w : World} {rb : Nat} {l : List UInt8} {z : Bool} (h : Rd w rb l z) :
    Calls Tryz.prog 41 #[.pointer (some ⟨rb, 0, none⟩)] w fun e w' => e = .returned (.int .u32 (tkv 4 l : Int)) ∧ Rd w' rb (tkl 4 l) (tkw 4 l z) ∧ Tb rb w w' := by
  have ht := hid (rd_take h 4 4 rfl (by omega) (by omega))
  have hlt := tkv_lt 4 l
  generalize tkv 4 l = V at ht hlt ⊢
  have hw := wu32 V (by omega)
  clear h
  go_enter Tryz.func41, Tryz.ntmps41
  go_wp2_with fail
  refine ht.out.mono ?_
  rintro e w1 ⟨rfl, h1, h2⟩
  replace h1 := hid h1
  replace h2 := hid h2
  go_wp2_with fail
  go_ret
  exact ⟨rfl, h1.out, h2.out⟩

/-- How many follow. -/
def mnB (l : List UInt8) : Bool := decide (tkv 4 l ≤ 1048576 ∧ 5 * tkv 4 l ≤ (tkl 4 l).length)
def mnv (l : List UInt8) : Nat := if mnB l then tkv 4 l else 0
def mnw (l : List UInt8) (z : Bool) : Bool := if mnB l then tkw 4 l z else true

set_option maxRecDepth 100000 in
set_option maxHeartbeats 1000000 in
theorem rd_many {w : World} {rb : Nat} {l : List UInt8} {z : Bool} (h : Rd w rb l z) :
    Calls Tryz.prog 42 #[.pointer (some ⟨rb, 0, none⟩)] w fun e w' => e = .returned (.int .i64 (mnv l : Int)) ∧ Rd w' rb (tkl 4 l) (mnw l z) ∧ Tb rb w w' := by
  have ht := hid (rd_number h)
  have hlt := tkv_lt 4 l
  have hmv : Hid (mnB l = true → mnv l = tkv 4 l ∧ mnw l z = tkw 4 l z) := fun q => by unfold mnv mnw; rw [if_pos q, if_pos q]; exact ⟨rfl, rfl⟩
  have hmn : Hid (mnB l = false → mnv l = 0 ∧ mnw l z = true) := fun q => by unfold mnv mnw; rw [if_neg (by rw [q]; simp), if_neg (by rw [q]; simp)]; exact ⟨rfl, rfl⟩
  have hmb : Hid (mnB l = decide (tkv 4 l ≤ 1048576 ∧ 5 * tkv 4 l ≤ (tkl 4 l).length)) := rfl
  generalize tkv 4 l = V at ht hlt hmv hmb ⊢
  generalize tkl 4 l = l1 at ht hmb ⊢
  generalize tkw 4 l z = z1 at ht hmv ⊢
  clear h
  go_enter Tryz.func42, Tryz.ntmps42
  go_wp2_with fail
  refine ht.out.mono ?_
  rintro e w1 ⟨rfl, h1, h2⟩
  replace h2 := hid h2
  have h1h := hid h1
  obtain ⟨ad, cap, hblk, hby, hap⟩ := h1
  have c0 := cell_of hblk (j := 0) rfl
  have c1 := cell_of hblk (j := 1) rfl
  have hf1 := frozen_of hblk (k := 1)
  obtain ⟨n1, hn1⟩ : ∃ n1, l1.length = n1 := ⟨_, rfl⟩
  rw [hn1] at c0 hblk hmb
  have hbd := hby.bound
  rw [hn1] at hbd
  replace hblk := hid hblk
  replace hby := hid hby
  replace hap := hid hap
  replace hn1 := hid hn1
  have hfin : Hid (Rd (w1.setCell ⟨rb, 1, none⟩ (.bool true)) rb l1 true ∧ Tb rb w (w1.setCell ⟨rb, 1, none⟩ (.bool true))) := by
    have hT3 : Tb rb w1 (w1.setCell ⟨rb, 1, none⟩ (.bool true)) := (Ar.Turned.refl (fun k => k = rb) w1).setCell (p := ⟨rb, 1, none⟩) rfl _
    refine ⟨⟨ad, cap, ?_, bytes_turned hby.out hT3 hap.out, hap.out⟩, h2.out.trans hT3⟩
    rw [set_block hblk.out, hn1.out]
    rfl
  have q1 := wu64 V (by omega)
  have q2 := wu64 n1 (by omega)
  by_cases hV : V ≤ 1048576
  · have t1 : decide ((1048576 : Int) < (V : Int)) = false := decide_eq_false (by omega)
    have t1' : decide (1048576 < V) = false := decide_eq_false (by omega)
    have q3 : IntKind.u64.wrap ((V : Int) * 5) = ((5 * V : Nat) : Int) := by rw [Wi.wrapU]; omega
    have q4 : IntKind.u64.wrap (5 * (V : Int)) = ((5 * V : Nat) : Int) := by rw [Wi.wrapU]; omega
    obtain ⟨M, hM⟩ : ∃ M, 5 * V = M := ⟨_, rfl⟩
    rw [hM] at q3 q4
    by_cases hL : M ≤ n1
    · have t2 : decide ((n1 : Int) < (M : Int)) = false := decide_eq_false (by omega)
      have t2' : decide (n1 < M) = false := decide_eq_false (by omega)
      obtain ⟨e1, e2⟩ := hmv.out (by rw [hmb.out]; exact decide_eq_true ⟨hV, by omega⟩)
      replace e1 := hid e1
      replace e2 := hid e2
      clear ht hmv hmn hmb hM
      go_wp2_with fail
      go_ret
      rw [e1.out, e2.out]
      exact ⟨rfl, h1h.out, h2.out⟩
    · have t2 : decide ((n1 : Int) < (M : Int)) = true := decide_eq_true (by omega)
      have t2' : decide (n1 < M) = true := decide_eq_true (by omega)
      obtain ⟨e1, e2⟩ := hmn.out (by rw [hmb.out]; exact decide_eq_false (fun q => by omega))
      replace e1 := hid e1
      replace e2 := hid e2
      clear ht hmv hmn hmb hM
      go_wp2_with fail
      go_ret
      rw [e1.out, e2.out]
      exact ⟨rfl, hfin.out.1, hfin.out.2⟩
  · have t1 : decide ((1048576 : Int) < (V : Int)) = true := decide_eq_true (by omega)
    have t1' : decide (1048576 < V) = true := decide_eq_true (by omega)
    obtain ⟨e1, e2⟩ := hmn.out (by rw [hmb.out]; exact decide_eq_false (fun q => by omega))
    replace e1 := hid e1
    replace e2 := hid e2
    clear ht hmv hmn hmb
    go_wp2_with fail
    go_ret
    rw [e1.out, e2.out]
    exact ⟨rfl, hfin.out.1, hfin.out.2⟩

/-- A place off the bytes. -/
def plv (l : List UInt8) : Int × Int := ((tkv 4 l : Int), (tkv 1 (tkl 4 l) : Int))
def pll (l : List UInt8) : List UInt8 := tkl 1 (tkl 4 l)
def plw (l : List UInt8) (z : Bool) : Bool := tkw 1 (tkl 4 l) (tkw 4 l z)

set_option maxRecDepth 100000 in
set_option maxHeartbeats 1000000 in
theorem rd_place {w : World} {rb : Nat} {l : List UInt8} {z : Bool} (h : Rd w rb l z) :
    Calls Tryz.prog 43 #[.pointer (some ⟨rb, 0, none⟩)] w fun e w' => e = .returned (.agg #[.int .u32 (plv l).1, .int .i64 (plv l).2]) ∧ Rd w' rb (pll l) (plw l z) ∧ Tb rb w w' := by
  have hrb : rb < w.heap.size := by obtain ⟨_, _, h1, _⟩ := h; exact (Array.getElem?_eq_some_iff.1 h1).1
  have hb0 := balloc w (.cells #[.int .u32 0, .int .i64 0] 86)
  have hn0 := new_of w #[.int .u32 0, .int .i64 0] 86
  have hr0 := hid (h.more hb0)
  have ht0 := hid (Ar.Turned.ofBelow hb0 (fun k => k = rb))
  clear h hb0
  unfold plv pll plw
  have hBl := tkv_lt 1 (tkl 4 l)
  obtain ⟨A, hA⟩ : ∃ A, tkv 4 l = A := ⟨_, rfl⟩
  obtain ⟨B, hB⟩ : ∃ B, tkv 1 (tkl 4 l) = B := ⟨_, rfl⟩
  rw [hB] at hBl
  rw [hA, hB]
  replace hA := hid hA
  replace hB := hid hB
  dsimp only
  go_enter Tryz.func43, Tryz.ntmps43
  go_upto_region 1 with fail
  obtain ⟨w1, hw1⟩ : ∃ w1, w.alloc (.cells #[.int .u32 0, .int .i64 0] 86) = w1 := ⟨_, rfl⟩
  rw [hw1] at hn0 hr0 ht0 ⊢
  clear hw1
  have hnm := hid (rd_number hr0.out)
  rw [hA.out] at hnm
  replace hn0 := hid hn0
  go_wp2_with fail
  refine hnm.out.mono ?_
  rintro e w2 ⟨rfl, h2, t2⟩
  have hn2 := hid ((t2.block w.heap.size (Array.getElem?_eq_some_iff.1 hn0.out).1 (by omega)).trans hn0.out)
  have ht2 := hid (ht0.out.trans t2)
  have htk := hid (rd_take h2 1 1 rfl (by omega) (by omega))
  rw [hB.out] at htk
  have hwb : wrap64 (B : Int) = (B : Int) := IntWalk.wrap64_in _ ⟨by omega, by omega⟩
  clear hnm t2 h2
  go_wp2_with fail
  refine htk.out.mono ?_
  rintro e w3 ⟨rfl, h3, t3⟩
  have hn3 := (t3.block w.heap.size (Array.getElem?_eq_some_iff.1 hn2.out).1 (by omega)).trans hn2.out
  have c0 := cell_of hn3 (j := 0) rfl
  have c1 := cell_of hn3 (j := 1) rfl
  have f0 := frozen_of hn3 (k := 0)
  have f1 := frozen_of hn3 (k := 1)
  have hT := ht2.out.trans t3
  have hS1 := (Ar.Turned.refl (fun k => k = w.heap.size) w3).setCell (p := ⟨w.heap.size, 0, none⟩) rfl (.int .u32 (A : Int))
  have hS2 := hS1.setCell (p := ⟨w.heap.size, 1, none⟩) rfl (.int .i64 (B : Int))
  have hfin := hid (h3.keep hS2 (fun k hk e => by omega))
  have hTf := hid (hT.then hS2 (fun i hi e => by omega))
  have hnf : Hid (((w3.setCell ⟨w.heap.size, 0, none⟩ (.int .u32 (A : Int))).setCell ⟨w.heap.size, 1, none⟩ (.int .i64 (B : Int))).heap[w.heap.size]? = some (Obj.cells #[.int .u32 (A : Int), .int .i64 (B : Int)] 86 (0, 0))) := by
    have := set_block (set_block hn3 (k := 0) (.int .u32 (A : Int))) (k := 1) (.int .i64 (B : Int))
    exact this
  clear htk t3 h3 hn3 hS1 hS2 hT
  go_wp2_with fail
  refine bodyPost_ret (results_cell_row rfl _ _ w.heap.size 86 _ (0, 0) _ rfl hnf.out Tryz.underlying86 rfl (by kernel_rfl)) rfl ?_
  exact ⟨rfl, hfin.out, hTf.out⟩

end Go.Proofs.YtboafgimjadboaaGreatDoor

namespace Go.Proofs.YtboafgimjadboaaGreatDoor
open Go.RowKit
set_option linter.unusedVariables false
open Wi (be be_length bc)

/-- A number with a sign. -/
def sg (V : Nat) : Int := if V < 2147483648 then (V : Int) else (V : Int) - 4294967296

theorem signed_ok (V : Nat) (hV : V < 4294967296) (w : World) : Calls Tryz.prog 72 #[.int .u64 (V : Int)] w fun e w' => e = .returned (.int .i32 (sg V)) ∧ w = w' := by
  have h1 := wu32 V hV
  have h2 : wrap32 (V : Int) = sg V := by
    unfold sg wrap32
    split <;> omega
  generalize sg V = X at h2 ⊢
  go_enter Tryz.func72, Tryz.ntmps72
  go_wp2_with fail
  go_ret
  exact ⟨by rw [← h2]; rfl, rfl⟩

/-- What is left behind so many numbers. -/
def tkn : Nat → List UInt8 → List UInt8
  | 0, l => l
  | k + 1, l => tkl 4 (tkn k l)
def tkz : Nat → List UInt8 → Bool → Bool
  | 0, _, z => z
  | k + 1, l, z => tkw 4 (tkn k l) (tkz k l z)
def tka (k : Nat) (l : List UInt8) : Nat := tkv 4 (tkn k l)

/-- An edge off the bytes. -/
def egl (l : List UInt8) : Eg := ⟨tka 0 l, tka 2 l, tka 1 l, tka 3 l, sg (tka 4 l)⟩
/-- Half of it. -/
def egk (k : Nat) (l : List UInt8) : Eg := if k = 0 then ez else if k = 1 then ⟨tka 0 l, 0, tka 1 l, 0, 0⟩ else ⟨tka 0 l, tka 2 l, tka 1 l, tka 3 l, 0⟩

def ecA (x : Eg) : Array Value := #[.int .u32 (x.f0 : Int), .int .u32 (x.f1 : Int), .int .u32 (x.n0 : Int), .int .u32 (x.n1 : Int), .int .i32 x.w]

theorem egk_step (k : Nat) (hk : k < 2) (l : List UInt8) : ((ecA (egk k l)).setIfInBounds k (.int .u32 (tka (2 * k) l : Int))).setIfInBounds (2 + k) (.int .u32 (tka (2 * k + 1) l : Int)) = ecA (egk (k + 1) l) := by
  rcases (by omega : k = 0 ∨ k = 1) with rfl | rfl
  · rfl
  · rfl

set_option maxRecDepth 100000 in
set_option maxHeartbeats 1000000 in
theorem rd_edge {w : World} {rb : Nat} {l : List UInt8} {z : Bool} (h : Rd w rb l z) :
    Calls Tryz.prog 44 #[.pointer (some ⟨rb, 0, none⟩)] w fun e w' => e = .returned (.agg (ecA (egl l))) ∧ Rd w' rb (tkn 5 l) (tkz 5 l z) ∧ Tb rb w w' := by
  have hrb : rb < w.heap.size := by obtain ⟨_, _, h1, _⟩ := h; exact (Array.getElem?_eq_some_iff.1 h1).1
  have b1 := balloc w (.cells #[.int .u32 0, .int .u32 0, .int .u32 0, .int .u32 0, .int .i32 0] 72)
  have n1 := new_of w #[.int .u32 0, .int .u32 0, .int .u32 0, .int .u32 0, .int .i32 0] 72
  go_enter Tryz.func44, Tryz.ntmps44
  go_upto_region 1 with fail
  obtain ⟨w1, hw1⟩ : ∃ w1, w.alloc (.cells #[.int .u32 0, .int .u32 0, .int .u32 0, .int .u32 0, .int .i32 0] 72) = w1 := ⟨_, rfl⟩
  rw [hw1] at b1 n1 ⊢
  clear hw1
  have b2 := balloc w1 (.cells #[.int .u32 0, .int .u32 0, .int .u32 0, .int .u32 0, .int .i32 0] 72)
  have n2 := new_of w1 #[.int .u32 0, .int .u32 0, .int .u32 0, .int .u32 0, .int .i32 0] 72
  go_upto_region 2 with fail
  obtain ⟨w2, hw2⟩ : ∃ w2, w1.alloc (.cells #[.int .u32 0, .int .u32 0, .int .u32 0, .int .u32 0, .int .i32 0] 72) = w2 := ⟨_, rfl⟩
  rw [hw2] at b2 n2 ⊢
  clear hw2
  have n12 := (b2.block _ (Array.getElem?_eq_some_iff.1 n1).1).trans n1
  have hAB : w.heap.size < w1.heap.size := (Array.getElem?_eq_some_iff.1 n1).1
  have hB2 : w1.heap.size < w2.heap.size := (Array.getElem?_eq_some_iff.1 n2).1
  obtain ⟨A, hA⟩ : ∃ A, w.heap.size = A := ⟨_, rfl⟩
  obtain ⟨B, hB⟩ : ∃ B, w1.heap.size = B := ⟨_, rfl⟩
  have hbw := b1.trans (b2.mono b1.size)
  have hst0 : Hid (Rd w2 rb l z ∧ Ar.Turned (fun k => k = rb ∨ k = B) w2 w2 ∧ w2.heap[B]? = some (Obj.cells (ecA (egk 0 l)) 72 (0, 0))) := ⟨h.more hbw, Ar.Turned.refl _ _, by rw [← hB]; exact n2⟩
  rw [hA] at hAB n12 hrb ⊢
  rw [hB] at hAB hB2 ⊢
  replace n12 := hid n12
  replace hbw := hid hbw
  replace hA := hid hA
  clear b1 b2 n1 n2 h hB
  go_wp2_with fail
  go_loopw [4, 5] (fun _ s5 wr => ∃ k : Nat, k ≤ 2 ∧ s5 = .int .i64 (k : Int) ∧ Hid (Rd wr rb (tkn (2 * k) l) (tkz (2 * k) l z) ∧ Ar.Turned (fun i => i = rb ∨ i = B) w2 wr ∧ wr.heap[B]? = some (Obj.cells (ecA (egk k l)) 72 (0, 0)))) (fun _ s5 _ => 2 - (intOf s5).toNat)
  case atStart => exact ⟨0, by omega, by go_num, hst0⟩
  case round =>
    obtain ⟨k, hk, rfl, hst⟩ := hrel
    clear hst0
    rcases Nat.lt_or_ge k 2 with hk2 | hk2
    · have i1 : (0 : Int) ≤ (k : Int) := by omega
      have i2 : (k : Int) < 2 := by omega
      have hnm := hid (rd_number hst.out.1)
      obtain ⟨P, hP⟩ : ∃ P, tkv 4 (tkn (2 * k) l) = P := ⟨_, rfl⟩
      rw [hP] at hnm
      have hP' : Hid (tka (2 * k) l = P) := hP
      clear hP
      go_wp2_with fail
      refine hnm.out.mono ?_
      rintro e w3 ⟨rfl, h3, t3⟩
      have hn3 := (t3.block B (Array.getElem?_eq_some_iff.1 hst.out.2.2).1 (by omega)).trans hst.out.2.2
      obtain ⟨o3, ho3⟩ : ∃ o3, (ecA (egk k l))[k]? = some o3 := ⟨_, Array.getElem?_eq_getElem (by show k < 5; omega)⟩
      have c3 := cell_of hn3 ho3
      have f3 := frozen_of hn3 (k := k)
      have S3 := (Ar.Turned.refl (fun i => i = rb ∨ i = B) w3).setCell (p := ⟨B, k, none⟩) (.inr rfl) (.int .u32 (P : Int))
      have S3' := (Ar.Turned.refl (fun i => i = B) w3).setCell (p := ⟨B, k, none⟩) rfl (.int .u32 (P : Int))
      have hr3 := hid (h3.keep S3' (fun i hi e => by omega))
      have hn4 := hid (set_block hn3 (k := k) (.int .u32 (P : Int)))
      have hT4 := hid ((hst.out.2.1.trans (t3.mono (fun i hi => .inl hi))).trans S3)
      clear hnm t3 h3 hn3 ho3 S3 S3' hst
      go_upto_region 6 with fail
      obtain ⟨w4, hw4⟩ : ∃ w4, w3.setCell ⟨B, k, none⟩ (.int .u32 (P : Int)) = w4 := ⟨_, rfl⟩
      rw [hw4] at hr3 hn4 hT4 ⊢
      clear hw4 c3 f3
      have hnm := hid (rd_number hr3.out)
      obtain ⟨Q, hQ⟩ : ∃ Q, tkv 4 (tkl 4 (tkn (2 * k) l)) = Q := ⟨_, rfl⟩
      rw [hQ] at hnm
      have hQ' : Hid (tka (2 * k + 1) l = Q) := hQ
      clear hQ
      go_wp2_with fail
      refine hnm.out.mono ?_
      rintro e w5 ⟨rfl, h5, t5⟩
      have hn5 := (t5.block B (Array.getElem?_eq_some_iff.1 hn4.out).1 (by omega)).trans hn4.out
      obtain ⟨o5, ho5⟩ : ∃ o5, ((ecA (egk k l)).setIfInBounds k (.int .u32 (P : Int)))[2 + k]? = some o5 := ⟨_, Array.getElem?_eq_getElem (by rw [Array.size_setIfInBounds]; show 2 + k < 5; omega)⟩
      have c5 := cell_of hn5 ho5
      have f5 := frozen_of hn5 (k := 2 + k)
      have S5 := (Ar.Turned.refl (fun i => i = rb ∨ i = B) w5).setCell (p := ⟨B, 2 + k, none⟩) (.inr rfl) (.int .u32 (Q : Int))
      have S5' := (Ar.Turned.refl (fun i => i = B) w5).setCell (p := ⟨B, 2 + k, none⟩) rfl (.int .u32 (Q : Int))
      have hr5 := hid (h5.keep S5' (fun i hi e => by omega))
      have hn6 := hid (set_block hn5 (k := 2 + k) (.int .u32 (Q : Int)))
      have hT6 := hid ((hT4.out.trans (t5.mono (fun i hi => .inl hi))).trans S5)
      have hfin : Hid (Rd (w5.setCell ⟨B, 2 + k, none⟩ (.int .u32 (Q : Int))) rb (tkn (2 * (k + 1)) l) (tkz (2 * (k + 1)) l z) ∧ Ar.Turned (fun i => i = rb ∨ i = B) w2 (w5.setCell ⟨B, 2 + k, none⟩ (.int .u32 (Q : Int))) ∧ (w5.setCell ⟨B, 2 + k, none⟩ (.int .u32 (Q : Int))).heap[B]? = some (Obj.cells (ecA (egk (k + 1) l)) 72 (0, 0))) := by
        refine ⟨hr5.out, hT6.out, ?_⟩
        rw [hn6.out, ← egk_step k hk2 l, hP'.out, hQ'.out]
      clear hnm t5 h5 hn5 ho5 S5 S5' hr5 hn6 hT6 hT4 hn4 hr3
      go_wp2_with fail
      go_roundw
      case rel => exact ⟨k + 1, by omega, by go_num, hfin⟩
      case measure => simp [intOf]; omega
    · obtain rfl : k = 2 := by omega
      have hnm := hid (rd_take hst.out.1 4 4 rfl (by omega) (by omega))
      have hlt := tkv_lt 4 (tkn (2 * 2) l)
      obtain ⟨P, hP⟩ : ∃ P, tkv 4 (tkn (2 * 2) l) = P := ⟨_, rfl⟩
      rw [hP] at hnm hlt
      have hP' : Hid (tka 4 l = P) := hP
      have hsg := hid (fun y => signed_ok P (by omega) y)
      clear hP
      go_wp2_with fail
      refine hnm.out.mono ?_
      rintro e w3 ⟨rfl, h3, t3⟩
      have hn3 := (t3.block B (Array.getElem?_eq_some_iff.1 hst.out.2.2).1 (by omega)).trans hst.out.2.2
      have hA3 : Hid (w3.heap[A]? = some (Obj.cells #[.int .u32 0, .int .u32 0, .int .u32 0, .int .u32 0, .int .i32 0] 72 (0, 0))) := by
        have hA0 : A < w2.heap.size := by omega
        have e1 := hst.out.2.1.block A hA0 (by omega)
        have e2 := t3.block A (by have := hst.out.2.1.size; omega) (by omega)
        exact (e2.trans e1).trans n12.out
      go_wp2_with fail
      refine (hsg.out w3).mono ?_
      rintro e w4 ⟨rfl, rfl⟩
      obtain ⟨X, hX⟩ : ∃ X, sg P = X := ⟨_, rfl⟩
      rw [hX]
      have c0 := cell_of hn3 (j := 0) (u := .int .u32 (tka 0 l : Int)) rfl
      have c1 := cell_of hn3 (j := 1) (u := .int .u32 (tka 2 l : Int)) rfl
      have c2 := cell_of hn3 (j := 2) (u := .int .u32 (tka 1 l : Int)) rfl
      have c3 := cell_of hn3 (j := 3) (u := .int .u32 (tka 3 l : Int)) rfl
      have c4 := cell_of hn3 (j := 4) (u := .int .i32 0) rfl
      have f4 := frozen_of hn3 (k := 4)
      have S4 := (Ar.Turned.refl (fun i => i = rb ∨ i = B) w3).setCell (p := ⟨B, 4, none⟩) (.inr rfl) (.int .i32 X)
      have S4' := (Ar.Turned.refl (fun i => i = B) w3).setCell (p := ⟨B, 4, none⟩) rfl (.int .i32 X)
      have hr4 := hid (h3.keep S4' (fun i hi e => by omega))
      have hn4 := set_block hn3 (k := 4) (.int .i32 X)
      have hA4 := (S4'.block A (Array.getElem?_eq_some_iff.1 hA3.out).1 (by omega)).trans hA3.out
      have hT4 := hid ((hst.out.2.1.trans (t3.mono (fun i hi => .inl hi))).trans S4)
      clear hnm t3 h3 hn3 S4 S4' hst hsg hA3
      go_upto_region 9 with fail
      obtain ⟨w5, hw5⟩ : ∃ w5, w3.setCell ⟨B, 4, none⟩ (.int .i32 X) = w5 := ⟨_, rfl⟩
      rw [hw5] at hr4 hn4 hA4 hT4 ⊢
      clear hw5 c0 c1 c2 c3 c4 f4
      obtain ⟨y0, hy0⟩ : ∃ y0, tka 0 l = y0 := ⟨_, rfl⟩
      obtain ⟨y1, hy1⟩ : ∃ y1, tka 1 l = y1 := ⟨_, rfl⟩
      obtain ⟨y2, hy2⟩ : ∃ y2, tka 2 l = y2 := ⟨_, rfl⟩
      obtain ⟨y3, hy3⟩ : ∃ y3, tka 3 l = y3 := ⟨_, rfl⟩
      have hn5 : w5.heap[B]? = some (Obj.cells #[.int .u32 (y0 : Int), .int .u32 (y2 : Int), .int .u32 (y1 : Int), .int .u32 (y3 : Int), .int .i32 X] 72 (0, 0)) := by rw [← hy0, ← hy1, ← hy2, ← hy3]; exact hn4
      have heg : Hid (ecA (egl l) = #[.int .u32 (y0 : Int), .int .u32 (y2 : Int), .int .u32 (y1 : Int), .int .u32 (y3 : Int), .int .i32 X]) := by
        show _ = _
        unfold egl ecA
        rw [hy0, hy1, hy2, hy3, hP'.out, hX]
      clear hn4 hy0 hy1 hy2 hy3 hX
      have d0 := cell_of hn5 (j := 0) rfl
      have d1 := cell_of hn5 (j := 1) rfl
      have d2 := cell_of hn5 (j := 2) rfl
      have d3 := cell_of hn5 (j := 3) rfl
      have d4 := cell_of hn5 (j := 4) rfl
      have a0 := cell_of hA4 (j := 0) rfl
      have a1 := cell_of hA4 (j := 1) rfl
      have a2 := cell_of hA4 (j := 2) rfl
      have a3 := cell_of hA4 (j := 3) rfl
      have a4 := cell_of hA4 (j := 4) rfl
      have g0 := frozen_of hA4 (k := 0)
      have g1 := frozen_of hA4 (k := 1)
      have g2 := frozen_of hA4 (k := 2)
      have g3 := frozen_of hA4 (k := 3)
      have g4 := frozen_of hA4 (k := 4)
      have S := (((((Ar.Turned.refl (fun i => i = A) w5).setCell (p := ⟨A, 0, none⟩) rfl (.int .u32 (y0 : Int))).setCell (p := ⟨A, 1, none⟩) rfl (.int .u32 (y2 : Int))).setCell (p := ⟨A, 2, none⟩) rfl (.int .u32 (y1 : Int))).setCell (p := ⟨A, 3, none⟩) rfl (.int .u32 (y3 : Int))).setCell (p := ⟨A, 4, none⟩) rfl (.int .i32 X)
      have hnA := hid (set_block (set_block (set_block (set_block (set_block hA4 (k := 0) (.int .u32 (y0 : Int))) (k := 1) (.int .u32 (y2 : Int))) (k := 2) (.int .u32 (y1 : Int))) (k := 3) (.int .u32 (y3 : Int))) (k := 4) (.int .i32 X))
      have hrf := hid (hr4.out.keep S (fun i hi e => by omega))
      have hTf := hid (((Ar.Turned.ofBelow hbw.out (fun i => i = rb)).then hT4.out (fun i hi e => by rcases e with e | e; exact e; have := hA.out; omega)).then S (fun i hi e => by have := hA.out; omega))
      clear S hn5 hA4 hr4 hT4
      go_wp2_with fail
      refine bodyPost_ret (results_cell_row rfl _ _ A 72 _ (0, 0) _ rfl hnA.out Tryz.underlying72 rfl (by kernel_rfl)) rfl ?_
      refine ⟨?_, hrf.out, hTf.out⟩
      rw [heg.out]
      rfl

end Go.Proofs.YtboafgimjadboaaGreatDoor

namespace Go.Proofs.YtboafgimjadboaaGreatDoor
open Go.RowKit
set_option linter.unusedVariables false
open Wi (be be_length bc)

set_option maxRecDepth 100000 in
set_option maxHeartbeats 4000000 in
theorem putPlace_ok {base : Nat} {w : World} {v : Value} {l : List UInt8} (hb : Bw base w v l) (hbs : base ≤ w.heap.size) (hl : l.length + 5 ≤ 900000) (p : Int × Int) (hp : Pn p) :
    Calls Tryz.prog 37 #[v, .agg #[.int .u32 p.1, .int .i64 p.2]] w fun e w' => ∃ v', e = .returned v' ∧ Bw base w' v' (l ++ encP p) ∧ Kb base w w' := by
  obtain ⟨i0, hif, hz0, hz1, hz2⟩ := info_parts infoU8
  obtain ⟨p1, p2, p3, p4⟩ := hp
  obtain ⟨a, b⟩ := p
  obtain ⟨A, rfl⟩ : ∃ A : Nat, a = (A : Int) := ⟨a.toNat, by dsimp only at p1; omega⟩
  obtain ⟨S, rfl⟩ : ∃ S : Nat, b = (S : Int) := ⟨b.toNat, by dsimp only at p3; omega⟩
  dsimp only at p2 p4
  have hA : A < 4294967296 := by omega
  have hS : S < 256 := by omega
  clear p1 p2 p3 p4
  have hwS := wu64 S (by omega)
  have b1 := balloc w (.cells #[.int .u32 (A : Int), .int .i64 (S : Int)] 86)
  have n1 := new_of w #[.int .u32 (A : Int), .int .i64 (S : Int)] 86
  have hlen : Hid ((encP ((A : Int), (S : Int))) = be 4 A ++ be 1 S) := by unfold encP; exact rfl
  have hp1 := hid (fun y => Wi.put_nil (S : Int) 1 S 1 y rfl rfl (by omega) (by omega))
  replace hb := hid hb
  go_enter Tryz.func37, Tryz.ntmps37
  go_upto_region 1 with fail
  obtain ⟨w1, hw1⟩ : ∃ w1, w.alloc (.cells #[.int .u32 (A : Int), .int .i64 (S : Int)] 86) = w1 := ⟨_, rfl⟩
  rw [hw1] at b1 n1 ⊢
  clear hw1
  have c0 := cell_of n1 (j := 0) (u := .int .u32 (A : Int)) rfl
  have b2 := balloc w1 (.cells #[.int .u32 (A : Int)] 56)
  have hB2 := b1.trans (b2.mono b1.size)
  have hput := hid (put17_ok (base := base) (n := 1) (xs := [A]) (vb := w1.heap.size) (ownsRow_below hb.out hB2) (Nat.le_trans hbs hB2.size) (by omega) rfl (fun x hx => by simp at hx; omega) (new_of _ _ _))
  have hk2 := hid (Kb.ofBelow hB2 hbs)
  have hn2 := hid ((b2.block w.heap.size (Array.getElem?_eq_some_iff.1 n1).1).trans n1)
  clear b1 n1 b2 hB2 hb
  go_wp2_with fail
  refine hput.out.mono ?_
  rintro e w3 ⟨v3, rfl, hb3, k3⟩
  have hk3 := hid (hk2.out.trans k3)
  have hc := cell_of (k3.2 _ _ _ _ hn2.out (by decide)) (j := 1) (u := .int .i64 (S : Int)) rfl
  have hs3 := Nat.le_trans hbs hk3.out.1.size
  replace hb3 := hid hb3
  clear k3 hput hk2 hn2 c0
  go_wp2_with fail
  refine (hp1.out w3).mono ?_
  rintro e w4 ⟨g, rfl, hg4, b4⟩
  have hown : w4.ownsRow base 5 1 v3 (l ++ be 4 A).length ((l ++ be 4 A).map bc) := by
    have := ownsRow_below hb3.out b4
    simpa using this
  have hk4 := hid (hk3.out.trans (Kb.ofBelow b4 hs3))
  have hs4 := Nat.le_trans hs3 b4.size
  obtain ⟨lg, hlg⟩ : ∃ lg, l ++ be 4 A = lg := ⟨_, rfl⟩
  have hgl : lg.length ≤ 900000 := by rw [← hlg, List.length_append, be_length]; omega
  rw [hlg] at hown
  replace hlg := hid hlg
  clear b4 hb3 hk3 hp1 hc
  go_wp2_with (at_builtin; refine Wi.wpList_append_bytes _ rfl (.tmp 10) (.tmp 14) 43 rfl base 5 i0 Tryz.underlying43 hif hz0 hz1 hz2 _ lg lg.length rfl hown _ 1 1 (be 1 S) rfl (by rw [be_length]) hg4 (by omega) hs4 ?_; intro v' w' ho' hg'; refine Hid.out ?_)
  have hk5 := hid (hk4.out.trans (Kb.grown hown hg' (Nat.le_refl _) hs4))
  have hB5 : Hid (Bw base w' v' (l ++ encP ((A : Int), (S : Int)))) := by
    rw [hlen.out, ← List.append_assoc, hlg.out]
    show World.ownsRow _ _ _ _ _ _ _
    rw [List.length_append, be_length]
    exact ho'
  clear ho' hg' hown hk4 hg4
  refine hid ?_
  go_wp2_with fail
  go_ret
  exact ⟨_, rfl, hB5.out, hk5.out⟩

end Go.Proofs.YtboafgimjadboaaGreatDoor

namespace Go.Proofs.YtboafgimjadboaaGreatDoor
open Go.RowKit
set_option linter.unusedVariables false
open Wi (be be_length bc)

set_option maxRecDepth 100000 in
set_option maxHeartbeats 800000 in
theorem putEdge_ok {base : Nat} {w : World} {v : Value} {l : List UInt8} (hb : Bw base w v l) (hbs : base ≤ w.heap.size) (hl : l.length + 20 ≤ 900000) (x : Eg) (hx : En x) :
    Calls Tryz.prog 38 #[v, .agg #[.int .u32 (x.f0 : Int), .int .u32 (x.f1 : Int), .int .u32 (x.n0 : Int), .int .u32 (x.n1 : Int), .int .i32 x.w]] w fun e w' => ∃ v', e = .returned v' ∧ Bw base w' v' (l ++ encG x) ∧ Kb base w w' := by
  have hxh := hid hx
  have hb0 := balloc w (.cells #[.int .u32 (x.f0 : Int), .int .u32 (x.f1 : Int), .int .u32 (x.n0 : Int), .int .u32 (x.n1 : Int), .int .i32 x.w] 72)
  have n0 := hid (new_of w #[.int .u32 (x.f0 : Int), .int .u32 (x.f1 : Int), .int .u32 (x.n0 : Int), .int .u32 (x.n1 : Int), .int .i32 x.w] 72)
  have hk0 := hid (Kb.ofBelow hb0 hbs)
  have hbw0 := hid (show Bw base _ v l from ownsRow_below hb hb0)
  have hbs0 := Nat.le_trans hbs hb0.size
  obtain ⟨Wn, hWn⟩ : ∃ Wn : Nat, (x.w % 4294967296).toNat = Wn := ⟨_, rfl⟩
  have hww : IntKind.u32.wrap x.w = (Wn : Int) := by rw [Wi.wrapU32]; omega
  have hW4 : Wn < 4294967296 := by omega
  have henc : Hid (encG x = be 4 x.f0 ++ (be 4 x.n0 ++ (be 4 x.f1 ++ (be 4 x.n1 ++ be 4 Wn)))) := by rw [← hWn]; exact hid rfl
  clear hWn hb hb0 hx
  go_enter Tryz.func38, Tryz.ntmps38
  go_upto_region 1 with fail
  obtain ⟨w1, hw1⟩ : ∃ w1, w.alloc (.cells #[.int .u32 (x.f0 : Int), .int .u32 (x.f1 : Int), .int .u32 (x.n0 : Int), .int .u32 (x.n1 : Int), .int .i32 x.w] 72) = w1 := ⟨_, rfl⟩
  rw [hw1] at n0 hk0 hbw0 hbs0 ⊢
  clear hw1
  have c0 := cell_of n0.out (j := 0) (u := .int .u32 (x.f0 : Int)) rfl
  have c1 := cell_of n0.out (j := 1) (u := .int .u32 (x.f1 : Int)) rfl
  go_wp2_with fail
  go_loopw [0, 5, 6, 9] (fun u _ _ s9 wr => ∃ k : Nat, k ≤ 2 ∧ s9 = .int .i64 (k : Int) ∧ Hid (Bw base wr u (l ++ (if k = 0 then [] else if k = 1 then be 4 x.f0 ++ be 4 x.n0 else be 4 x.f0 ++ (be 4 x.n0 ++ (be 4 x.f1 ++ be 4 x.n1)))) ∧ Kb base w1 wr)) (fun _ _ _ s9 _ => 2 - (intOf s9).toNat)
  case atStart => exact ⟨0, by omega, by go_num, by simpa using hbw0.out, Kb.refl _ _⟩
  case round =>
    obtain ⟨k, hk, rfl, hst⟩ := hrel
    clear c0 c1
    have hn := hst.out.2.2 _ _ _ _ n0.out (by decide)
    have hsr := Nat.le_trans hbs0 hst.out.2.1.size
    rcases Nat.lt_or_ge k 2 with hk2 | hk2
    · have hix := pair32_fr x k hk2
      obtain ⟨F, hF⟩ : ∃ F, x.fr k = F := ⟨_, rfl⟩
      obtain ⟨G, hG⟩ : ∃ G, x.nx k = G := ⟨_, rfl⟩
      have hFG : F < 4294967296 ∧ G < 4294967296 := by
        obtain ⟨a1, a2, a3, a4, _⟩ := hxh.out
        subst hF hG
        unfold Eg.fr Eg.nx
        rcases (by omega : k = 0 ∨ k = 1) with rfl | rfl
        · exact ⟨a1, a3⟩
        · exact ⟨a2, a4⟩
      have cG : wr.cell? ⟨w.heap.size, 2 + k, none⟩ = some (.int .u32 (G : Int)) := by
        subst hG
        unfold Eg.nx
        rcases (by omega : k = 0 ∨ k = 1) with rfl | rfl
        · exact cell_of hn rfl
        · exact cell_of hn rfl
      rw [hF] at hix
      have i1 : (0 : Int) ≤ (k : Int) := by omega
      have i2 : (k : Int) < 2 := by omega
      have b2 := balloc wr (.cells #[.int .u32 (F : Int), .int .u32 (G : Int)] 56)
      obtain ⟨lg, hlg⟩ : ∃ lg, l ++ (if k = 0 then [] else if k = 1 then be 4 x.f0 ++ be 4 x.n0 else be 4 x.f0 ++ (be 4 x.n0 ++ (be 4 x.f1 ++ be 4 x.n1))) = lg := ⟨_, rfl⟩
      have hgl : lg.length ≤ 900000 := by
        rw [← hlg]
        rcases (by omega : k = 0 ∨ k = 1) with rfl | rfl <;> simp [be_length] <;> omega
      have hnx : Hid (l ++ (if k + 1 = 0 then [] else if k + 1 = 1 then be 4 x.f0 ++ be 4 x.n0 else be 4 x.f0 ++ (be 4 x.n0 ++ (be 4 x.f1 ++ be 4 x.n1))) = lg ++ [F, G].flatMap (be 4)) := by
        show _ = _
        rw [← hlg, ← hF, ← hG]
        unfold Eg.fr Eg.nx
        rcases (by omega : k = 0 ∨ k = 1) with rfl | rfl <;> simp
      rw [hlg] at hst
      have hput := hid (put17_ok (base := base) (n := 2) (xs := [F, G]) (vb := wr.heap.size) (ownsRow_below hst.out.1 b2) (Nat.le_trans hsr b2.size) (by omega) rfl (fun x hx => by simp at hx; omega) (new_of _ _ _))
      have hkb := hid (hst.out.2.trans (Kb.ofBelow b2 hsr))
      clear hF hG hlg hst hn b2
      go_wp2_with fail
      refine hput.out.mono ?_
      rintro e w3 ⟨v3, rfl, hb3, k3⟩
      have hk3 := hid (hkb.out.trans k3)
      rw [← hnx.out] at hb3
      replace hb3 := hid hb3
      clear k3 hput hkb cG
      go_wp2_with fail
      go_roundw
      case rel => exact ⟨k + 1, by omega, by go_num, hb3.out, hk3.out⟩
      case measure => simp [intOf]; omega
    · obtain rfl : k = 2 := by omega
      have hst2 : Hid (Bw base wr u0 (l ++ (be 4 x.f0 ++ (be 4 x.n0 ++ (be 4 x.f1 ++ be 4 x.n1)))) ∧ Kb base w1 wr) := hid (by simpa using hst.out)
      obtain ⟨lg, hlg⟩ : ∃ lg, l ++ (be 4 x.f0 ++ (be 4 x.n0 ++ (be 4 x.f1 ++ be 4 x.n1))) = lg := ⟨_, rfl⟩
      have hgl : lg.length ≤ 900000 := by rw [← hlg]; simp [be_length]; omega
      have hfin : Hid (l ++ encG x = lg ++ [Wn].flatMap (be 4)) := by
        show _ = _
        rw [henc.out, ← hlg]
        simp
      rw [hlg] at hst2
      have c4 := cell_of hn (j := 4) (u := .int .i32 x.w) rfl
      have b2 := balloc wr (.cells #[.int .u32 (Wn : Int)] 56)
      have hput := hid (put17_ok (base := base) (n := 1) (xs := [Wn]) (vb := wr.heap.size) (ownsRow_below hst2.out.1 b2) (Nat.le_trans hsr b2.size) (by omega) rfl (fun x hx => by simp at hx; omega) (new_of _ _ _))
      have hkb := hid (hk0.out.trans (hst2.out.2.trans (Kb.ofBelow b2 hsr)))
      clear hst hst2 hlg hn b2
      go_wp2_with fail
      refine hput.out.mono ?_
      rintro e w3 ⟨v3, rfl, hb3, k3⟩
      have hk3 := hid (hkb.out.trans k3)
      rw [← hfin.out] at hb3
      replace hb3 := hid hb3
      clear k3 hput hkb c4
      go_wp2_with fail
      go_ret
      exact ⟨_, rfl, hb3.out, hk3.out⟩

end Go.Proofs.YtboafgimjadboaaGreatDoor
