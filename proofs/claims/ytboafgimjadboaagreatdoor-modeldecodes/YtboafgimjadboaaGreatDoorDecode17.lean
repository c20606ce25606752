/- model's Decode, walked. -/
import Derived.Test.YtboafgimjadboaaGreatDoorBep
namespace Go.Proofs.YtboafgimjadboaaGreatDoor
open Go.RowKit
set_option linter.unusedVariables false

theorem infoPlace : (Tryz.prog.info? 86).map (fun i => (i.zero, i.size, i.bytes)) = some (some (.agg #[.int .u32 0, .int .i64 0]), 2, 16) := by kernel_rfl
theorem infoMEdge : (Tryz.prog.info? 72).map (fun i => (i.zero, i.size, i.bytes)) = some (some (.agg #[.int .u32 0, .int .u32 0, .int .u32 0, .int .u32 0, .int .i32 0]), 5, 20) := by kernel_rfl

/-- The blocks of a model that is read. -/
structure Db (w : World) (R rb mb : Nat) (N : Nat) (vv ev lv : Value) : Prop where
  r : w.heap[R]? = some (Obj.cells #[.int .i64 0, .slice none 0 0, .slice none 0 0, .slice none 0 0] 36 (0, 0))
  m : w.heap[mb]? = some (Obj.cells #[.int .i64 (N : Int), vv, ev, lv] 36 (0, 0))
  rm : R < rb ∧ rb < mb

theorem Db.of {w w' : World} {R rb mb N : Nat} {vv ev lv : Value} {S : Nat → Prop} (h : Db w R rb mb N vv ev lv) (hw : Ar.Turned S w w') (h1 : ¬ S R) (h2 : ¬ S mb) : Db w' R rb mb N vv ev lv :=
  ⟨(hw.block _ (Array.getElem?_eq_some_iff.1 h.r).1 h1).trans h.r, (hw.block _ (Array.getElem?_eq_some_iff.1 h.m).1 h2).trans h.m, h.rm⟩

/-- Places made, so many read. -/
def pad (k V : Nat) (l : List UInt8) : List (Int × Int) := pls k l ++ List.replicate (V - k) (0, 0)
theorem pad_len {k V : Nat} (h : k ≤ V) (l : List UInt8) : (pad k V l).length = V := by unfold pad; rw [List.length_append, pls_len, List.length_replicate]; omega
theorem pad_full (V : Nat) (l : List UInt8) : pad V V l = pls V l := by unfold pad; simp
theorem pad_set {k V : Nat} (h : k < V) (l : List UInt8) : (pad k V l).set k (plA k l) = pad (k + 1) V l := by
  unfold pad
  rw [pls_succ, List.set_append_right _ _ (by rw [pls_len]; omega), pls_len, Nat.sub_self, show V - k = (V - (k + 1)) + 1 by omega, List.replicate_succ, List.set_cons_zero, List.append_assoc]
  rfl
theorem made_get {z : Array Value} {n j : Nat} (h : j < n) : (madeCells z n).toList[j]? = some z[j % z.size]! := by
  unfold madeCells
  simp [h]

theorem made_places (V : Nat) : (madeCells (Value.cells (.agg #[.int .u32 0, .int .i64 0])) (V * 2)).toList = Ar.pcs (List.replicate V (0, 0)) := by
  show (madeCells #[.int .u32 0, .int .i64 0] (V * 2)).toList = _
  apply List.ext_getElem?
  intro j
  by_cases h : j < V * 2
  · rw [made_get h]
    obtain ⟨e1, e2⟩ := Ar.pcs_get (List.replicate V (0, 0)) (j / 2) (0, 0) (by rw [List.getElem?_replicate, if_pos (by omega)])
    rcases Nat.mod_two_eq_zero_or_one j with q | q
    · rw [show j / 2 * 2 = j by omega] at e1
      rw [e1, show j % (#[Value.int .u32 0, Value.int .i64 0] : Array Value).size = 0 from q]
      rfl
    · rw [show j / 2 * 2 + 1 = j by omega] at e2
      rw [e2, show j % (#[Value.int .u32 0, Value.int .i64 0] : Array Value).size = 1 from q]
      rfl
  · rw [List.getElem?_eq_none (by rw [Array.length_toList, size_madeCells]; omega), List.getElem?_eq_none (by rw [Ar.pcs_length, List.length_replicate]; omega)]

theorem made_edges (V : Nat) : (madeCells (Value.cells (.agg #[.int .u32 0, .int .u32 0, .int .u32 0, .int .u32 0, .int .i32 0])) (V * 5)).toList = ecs (List.replicate V ez) := by
  show (madeCells #[.int .u32 0, .int .u32 0, .int .u32 0, .int .u32 0, .int .i32 0] (V * 5)).toList = _
  apply List.ext_getElem?
  intro j
  by_cases h : j < V * 5
  · rw [made_get h]
    obtain ⟨e0, e1, e2, e3, e4⟩ := ecs_get (List.replicate V ez) (j / 5) ez (by rw [List.getElem?_replicate, if_pos (by omega)])
    have hsz : (#[Value.int .u32 0, Value.int .u32 0, Value.int .u32 0, Value.int .u32 0, Value.int .i32 0] : Array Value).size = 5 := rfl
    rw [hsz]
    rcases (by omega : j % 5 = 0 ∨ j % 5 = 1 ∨ j % 5 = 2 ∨ j % 5 = 3 ∨ j % 5 = 4) with q | q | q | q | q
    · rw [show j / 5 * 5 = j by omega] at e0; rw [e0, q]; rfl
    · rw [show j / 5 * 5 + 1 = j by omega] at e1; rw [e1, q]; rfl
    · rw [show j / 5 * 5 + 2 = j by omega] at e2; rw [e2, q]; rfl
    · rw [show j / 5 * 5 + 3 = j by omega] at e3; rw [e3, q]; rfl
    · rw [show j / 5 * 5 + 4 = j by omega] at e4; rw [e4, q]; rfl
  · rw [List.getElem?_eq_none (by rw [Array.length_toList, size_madeCells]; omega), List.getElem?_eq_none (by rw [ecs_length, List.length_replicate]; omega)]

theorem block_made {w : World} {base e g n size : Nat} {xs : List Value} (h : w.ownsRow base e size (.slice (some ⟨g, 0, none⟩) n n) n xs) : w.heap[g]? = some (Obj.cells xs.toArray e (0, 0)) := by
  rcases h.2 with ⟨h1, _⟩ | ⟨g', cap, cur, h1, _, h2, _, _, h3, h4⟩
  · cases h1
  · cases h1
    rw [h2]
    congr 2
    rw [← h4]
    apply Array.ext'
    simp only
    rw [List.take_of_length_le (by rw [Array.length_toList]; omega)]

theorem pv_block {w : World} {g n : Nat} {t : TypeId} {ps : List (Int × Int)} (h : w.heap[g]? = some (Obj.cells (Ar.pcs ps).toArray t (0, 0))) (hl : ps.length = n) (hn : n ≤ 1000) (hp : ∀ p, p ∈ ps → 0 ≤ p.1 ∧ p.1 < 4294967296) : PV w (.slice (some ⟨g, 0, none⟩) n n) ps := by
  refine ⟨_, n, n, rfl, ⟨hl, hp, fun j p hj => ?_⟩, (fun e => by cases e), Nat.le_refl _, by unfold maxLen; omega⟩
  obtain ⟨e1, e2⟩ := Ar.pcs_get ps j p hj
  exact ⟨g, 0, rfl, cell_of h (by simpa using e1), cell_of h (by simpa using e2)⟩

theorem egv_block {w : World} {g n : Nat} {t : TypeId} {l : List Eg} (h : w.heap[g]? = some (Obj.cells (ecs l).toArray t (0, 0))) (hl : l.length = n) (hn : n ≤ 1000) (hp : ∀ x, x ∈ l → En x) : EgV w (.slice (some ⟨g, 0, none⟩) n n) l := by
  refine ⟨_, n, n, rfl, ⟨hl, hp, fun j x hj => ?_⟩, Nat.le_refl _, by unfold maxLen; omega⟩
  obtain ⟨e1, e2, e3, e4, e5⟩ := ecs_get l j x hj
  exact ⟨g, 0, rfl, cell_of h (by simpa using e1), cell_of h (by simpa using e2), cell_of h (by simpa using e3), cell_of h (by simpa using e4), cell_of h (by simpa using e5)⟩

/-- Behind the vertices. -/
structure Dv (w wr : World) (R rb mb vb N V : Nat) (l : List UInt8) (z : Bool) (k : Nat) : Prop where
  rd : Rd wr rb (plN k l) (plZ k l z)
  db : Db wr R rb mb N (.slice (some ⟨vb, 0, none⟩) V V) (.slice none 0 0) (.slice none 0 0)
  v : wr.heap[vb]? = some (Obj.cells (Ar.pcs (pad k V l)).toArray 86 (0, 0))
  lt : mb < vb
  bel : Below w.heap.size w wr
  R0 : w.heap.size = R

def padE (k E : Nat) (l : List UInt8) : List (Int × Int) := (eqs k l).map (·.1) ++ List.replicate (E - k) (0, 0)
def padL (k E : Nat) (l : List UInt8) : List Eg := (eqs k l).map (·.2) ++ List.replicate (E - k) ez
theorem padE_len {k E : Nat} (h : k ≤ E) (l : List UInt8) : (padE k E l).length = E := by unfold padE; rw [List.length_append, List.length_map, eqs_len, List.length_replicate]; omega
theorem padL_len {k E : Nat} (h : k ≤ E) (l : List UInt8) : (padL k E l).length = E := by unfold padL; rw [List.length_append, List.length_map, eqs_len, List.length_replicate]; omega
theorem padE_full (E : Nat) (l : List UInt8) : padE E E l = (eqs E l).map (·.1) := by unfold padE; simp
theorem padL_full (E : Nat) (l : List UInt8) : padL E E l = (eqs E l).map (·.2) := by unfold padL; simp
theorem padE_set {k E : Nat} (h : k < E) (l : List UInt8) : (padE k E l).set k (plv (eqN k l)) = padE (k + 1) E l := by
  unfold padE
  rw [eqs_succ, List.set_append_right _ _ (by rw [List.length_map, eqs_len]; omega), List.length_map, eqs_len, Nat.sub_self, show E - k = (E - (k + 1)) + 1 by omega, List.replicate_succ, List.set_cons_zero, List.map_append, List.append_assoc]
  rfl
theorem padL_set {k E : Nat} (h : k < E) (l : List UInt8) : (padL k E l).set k (eqA1 (eqN k l)).2 = padL (k + 1) E l := by
  unfold padL
  rw [eqs_succ, List.set_append_right _ _ (by rw [List.length_map, eqs_len]; omega), List.length_map, eqs_len, Nat.sub_self, show E - k = (E - (k + 1)) + 1 by omega, List.replicate_succ, List.set_cons_zero, List.map_append, List.append_assoc]
  rfl
theorem padL_same {k E : Nat} (h : k < E) (l : List UInt8) (he : (eqA1 (eqN k l)).2 = ez) : padL (k + 1) E l = padL k E l := by
  unfold padL
  rw [eqs_succ, List.map_append, List.append_assoc, show E - k = (E - (k + 1)) + 1 by omega, List.replicate_succ]
  show _ ++ ((eqA1 (eqN k l)).2 :: _) = _
  rw [he]
  rfl

theorem plN_le (l : List UInt8) : ∀ k, (plN k l).length ≤ l.length
  | 0 => Nat.le_refl _
  | k + 1 => by
    show (tkl 1 (tkl 4 (plN k l))).length ≤ _
    have := tkl_le 1 (tkl 4 (plN k l))
    have := tkl_le 4 (plN k l)
    have := plN_le l k
    omega

theorem ecs_set : ∀ (l : List Eg) (i : Nat) (x : Eg), ecs (l.set i x) = (((((ecs l).set (i * 5) (.int .u32 (x.f0 : Int))).set (i * 5 + 1) (.int .u32 (x.f1 : Int))).set (i * 5 + 2) (.int .u32 (x.n0 : Int))).set (i * 5 + 3) (.int .u32 (x.n1 : Int))).set (i * 5 + 4) (.int .i32 x.w)
  | [], i, x => by simp [ecs]
  | y :: l, 0, x => by simp [ecs]
  | y :: l, i + 1, x => by
    rw [show (i + 1) * 5 = i * 5 + 5 by omega]
    simp only [List.set_cons_succ, ecs, ecs_set l i x]

/-- Behind the edges. -/
structure De (w wr : World) (R rb mb vb eb lb N V E : Nat) (lv l : List UInt8) (z : Bool) (k : Nat) : Prop where
  rd : Rd wr rb (eqN k l) (eqZ k l z)
  db : Db wr R rb mb N (.slice (some ⟨vb, 0, none⟩) V V) (.slice (some ⟨eb, 0, none⟩) E E) (.slice (some ⟨lb, 0, none⟩) E E)
  v : wr.heap[vb]? = some (Obj.cells (Ar.pcs (pls V lv)).toArray 86 (0, 0))
  e : wr.heap[eb]? = some (Obj.cells (Ar.pcs (padE k E l)).toArray 86 (0, 0))
  l : wr.heap[lb]? = some (Obj.cells (ecs (padL k E l)).toArray 72 (0, 0))
  lt : mb < vb ∧ vb < eb ∧ eb < lb
  bel : Below w.heap.size w wr
  R0 : w.heap.size = R

set_option maxRecDepth 100000 in
set_option maxHeartbeats 2000000 in
theorem decode_ok {w : World} {ad : Option Addr} {n cap : Nat} {b : List UInt8} (hb : Wi.Bytes w ad cap b) (hn : b.length = n) (hbl : b.length ≤ 4000) (hT : Ar.Tab w) (h2 : 2 ≤ w.heap.size) :
    Calls Tryz.prog 20 #[.slice ad n cap] w fun e w' => Below w.heap.size w w' ∧ ((∃ m vv ev lv, Is b m ∧ e = .returned (.tuple #[.agg #[.int .i64 m.n, vv, ev, lv], .nilIface]) ∧ Mp w' vv ev lv m ∧ m.vs.length ≤ 1000 ∧ m.es.length ≤ 1000 ∧ m.l.length ≤ 1000) ∨ ((∀ m, ¬ Is b m) ∧ e = .returned (.tuple #[.agg #[.int .i64 0, .slice none 0 0, .slice none 0 0, .slice none 0 0], .iface 67 (.int .i64 17)]))) := by
  have b1 := balloc w (.cells #[.int .i64 0, .slice none 0 0, .slice none 0 0, .slice none 0 0] 36)
  have n1 := new_of w #[.int .i64 0, .slice none 0 0, .slice none 0 0, .slice none 0 0] 36
  have hnh := hid hn
  have hTh := hid hT
  have hbh := hid hb
  have hblk : Hid (∀ a, ad = some a → 0 < b.length → a.block < w.heap.size) := fun a e h0 => by
    have := hb.cell a e 0 (Wi.bc b[0]) (by rw [List.getElem?_map, List.getElem?_eq_getElem h0]; rfl)
    have := World.block_lt_of_cell? w _ this
    rwa [Wi.add_block] at this
  go_enter Tryz.func20, Tryz.ntmps20
  go_upto_region 1 with fail
  obtain ⟨w1, hw1⟩ : ∃ w1, w.alloc (.cells #[.int .i64 0, .slice none 0 0, .slice none 0 0, .slice none 0 0] 36) = w1 := ⟨_, rfl⟩
  rw [hw1] at b1 n1 ⊢
  clear hw1 hb hn hT
  have b2 := balloc w1 (.cells #[.slice ad n cap, .bool false] 93)
  have n2 := new_of w1 #[.slice ad n cap, .bool false] 93
  go_upto_region 2 with fail
  obtain ⟨w2, hw2⟩ : ∃ w2, w1.alloc (.cells #[.slice ad n cap, .bool false] 93) = w2 := ⟨_, rfl⟩
  rw [hw2] at b2 n2 ⊢
  clear hw2
  have n12 := (b2.block _ (Array.getElem?_eq_some_iff.1 n1).1).trans n1
  have hR1 : w.heap.size < w1.heap.size := (Array.getElem?_eq_some_iff.1 n1).1
  have hr12 : w1.heap.size < w2.heap.size := (Array.getElem?_eq_some_iff.1 n2).1
  obtain ⟨R, hR⟩ : ∃ R, w.heap.size = R := ⟨_, rfl⟩
  obtain ⟨rb, hrb⟩ : ∃ rb, w1.heap.size = rb := ⟨_, rfl⟩
  have hbw2 := b1.trans (b2.mono b1.size)
  have hrd2 : Rd w2 rb b false := by
    refine ⟨ad, cap, by rw [hnh.out, ← hrb]; exact n2, hbh.out.below hbw2, fun a e h0 => by have := hblk.out a e h0; omega⟩
  rw [hR] at n12 hR1 ⊢
  rw [hrb] at hR1 hr12 ⊢
  have hnm := hid (rd_number hrd2)
  have hNlt : tkv 4 b < 4294967296 := tkv_lt 4 b
  obtain ⟨N, hN⟩ : ∃ N, tkv 4 b = N := ⟨_, rfl⟩
  rw [hN] at hnm hNlt
  have hwN : wrap64 (N : Int) = (N : Int) := IntWalk.wrap64_in _ ⟨by omega, by omega⟩
  replace hN := hid hN
  replace hbw2 := hid hbw2
  replace hR := hid hR
  replace n12 := hid n12
  clear b1 b2 n1 n2 hrd2 hrb hblk hbh
  go_wp2_with fail
  refine hnm.out.mono ?_
  rintro e w3 ⟨rfl, h3, t3⟩
  have n13 := hid ((t3.block R (Array.getElem?_eq_some_iff.1 n12.out).1 (by omega)).trans n12.out)
  have hbw3 : Hid (Below w.heap.size w w3) := hbw2.out.trans (t3.below (fun k hk => by have := hR.out; omega) hbw2.out.size)
  have hs3 := t3.size
  have b4 := balloc w3 (.cells #[.int .i64 (N : Int), .slice none 0 0, .slice none 0 0, .slice none 0 0] 36)
  have n4 := new_of w3 #[.int .i64 (N : Int), .slice none 0 0, .slice none 0 0, .slice none 0 0] 36
  have hr4 := hid (h3.more b4)
  have n14 := hid ((b4.block R (Array.getElem?_eq_some_iff.1 n13.out).1).trans n13.out)
  have hbw4 := hid (hbw3.out.trans (b4.mono hbw3.out.size))
  clear hnm t3 h3 hbw3 n13
  go_upto_region 3 with fail
  obtain ⟨w4, hw4⟩ : ∃ w4, w3.alloc (.cells #[.int .i64 (N : Int), .slice none 0 0, .slice none 0 0, .slice none 0 0] 36) = w4 := ⟨_, rfl⟩
  rw [hw4] at n4 hr4 n14 hbw4 ⊢
  clear hw4 b4
  obtain ⟨mb, hmb⟩ : ∃ mb, w3.heap.size = mb := ⟨_, rfl⟩
  rw [hmb] at n4 hs3 ⊢
  have hm4 : mb < w4.heap.size := (Array.getElem?_eq_some_iff.1 n4).1
  have hdb4 : Hid (Db w4 R rb mb N (.slice none 0 0) (.slice none 0 0) (.slice none 0 0)) := ⟨n14.out, n4, by omega, by omega⟩
  have hmn := hid (rd_many hr4.out)
  have hml := mnv_le (tkl 4 b)
  have hVl : mnv (tkl 4 b) ≤ 800 := by have := tkl_le 4 (tkl 4 b); have := tkl_le 4 b; omega
  obtain ⟨V, hV⟩ : ∃ V, mnv (tkl 4 b) = V := ⟨_, rfl⟩
  rw [hV] at hmn hVl
  obtain ⟨z2, hz2e⟩ : ∃ z2, mnw (tkl 4 b) (tkw 4 b false) = z2 := ⟨_, rfl⟩
  rw [hz2e] at hmn
  obtain ⟨l2, hl2⟩ : ∃ l2, tkl 4 (tkl 4 b) = l2 := ⟨_, rfl⟩
  rw [hl2] at hmn hml
  replace hV := hid hV
  replace hz2e := hid hz2e
  replace hl2 := hid hl2
  clear n4 n14 hr4 hmb hml
  go_wp2_with fail
  refine hmn.out.mono ?_
  rintro e w5 ⟨rfl, h5, t5⟩
  have hdb5 := hid (hdb4.out.of t5 (by omega) (by omega))
  have hbw5 : Hid (Below w.heap.size w w5) := hbw4.out.trans (t5.below (fun k hk => by have := hR.out; omega) hbw4.out.size)
  have hs5 := t5.size
  replace h5 := hid h5
  clear t5 hmn hdb4 hbw4
  have hsw5 := hbw5.out.size
  obtain ⟨i0, hif, hz0, hz1, hz2⟩ := info_parts infoPlace
  go_upto_region 4 with (at_make; refine wpList_make_full _ rfl (.tmp 13) (.tmp 13) 33 rfl w.heap.size 86 i0 (.agg #[.int .u32 0, .int .i64 0]) 2 Tryz.underlying33 hif hz0 hz1 .i64 .i64 _ _ V rfl rfl rfl rfl (by rw [hz2]; omega) (by unfold maxLen; omega) hsw5 ?_; intro w6 hown6 hgrow6; refine Hid.out ?_)
  have b6 := (Below.refl w5.heap.size w5).grown hgrow6 (Nat.le_refl _) (by simp)
  have hv6 := block_made hown6
  rw [made_places] at hv6
  have hr6 := hid (h5.out.more b6)
  have hdb6 := hdb5.out.of (Ar.Turned.ofBelow b6 (fun _ => False)) (fun q => q) (fun q => q)
  have hbw6 := hid (hbw5.out.trans (b6.mono hsw5))
  have hvb6 : w5.heap.size < w6.heap.size := (Array.getElem?_eq_some_iff.1 hv6).1
  have c1 := cell_of hdb6.m (j := 1) rfl
  have f1 := frozen_of hdb6.m (k := 1)
  clear hown6 hgrow6 b6 hif hz0 hz1 hz2
  obtain ⟨vb, hvb⟩ : ∃ vb, w5.heap.size = vb := ⟨_, rfl⟩
  rw [hvb] at hv6 hvb6 hs5 ⊢
  have S6 := (Ar.Turned.refl (fun k => k = mb) w6).setCell (p := ⟨mb, 1, none⟩) rfl (.slice (some ⟨vb, 0, none⟩) V V)
  have hst0 : Hid (Dv w (w6.setCell ⟨mb, 1, none⟩ (.slice (some ⟨vb, 0, none⟩) V V)) R rb mb vb N V l2 z2 0) := by
    refine ⟨hr6.out.keep S6 (fun k hk e => by omega), ⟨?_, set_block hdb6.m _, hdb6.rm⟩, ?_, by omega, ?_, hR.out⟩
    · exact (S6.block R (Array.getElem?_eq_some_iff.1 hdb6.r).1 (by have := hdb6.rm; omega)).trans hdb6.r
    · exact (S6.block vb hvb6 (by omega)).trans hv6
    · exact hbw6.out.trans (S6.below (fun k hk => by have := hR.out; have := hdb6.rm; omega) hbw6.out.size)
  clear S6 hr6 hdb5 hbw5 hbw6 h5 hv6
  refine hid ?_
  go_upto_region 4 with fail
  obtain ⟨w7, hw7⟩ : ∃ w7, w6.setCell ⟨mb, 1, none⟩ (.slice (some ⟨vb, 0, none⟩) V V) = w7 := ⟨_, rfl⟩
  rw [hw7] at hst0 ⊢
  clear hw7 c1 f1 hdb6
  have d1 := cell_of hst0.out.db.m (j := 1) rfl
  go_wp2_with fail
  go_loopw [6, 19] (fun _ s19 wr => ∃ k : Nat, k ≤ V ∧ s19 = .int .i64 (k : Int) ∧ Hid (Dv w wr R rb mb vb N V l2 z2 k)) (fun _ s19 _ => V - (intOf s19).toNat)
  case atStart => exact ⟨0, by omega, by go_num, hst0⟩
  case round =>
    obtain ⟨k, hk, rfl, hst⟩ := hrel
    clear hst0 d1
    rcases Nat.lt_or_ge k V with hlt | hge
    · have j1 : (0 : Int) ≤ (k : Int) := by omega
      have j2 : (k : Int) < (V : Int) := by omega
      have hS : Hid (∀ y, Ar.Turned (fun i => i = rb ∨ i = vb) wr y → y.cell? ⟨mb, 1, none⟩ = some (.slice (some ⟨vb, 0, none⟩) V V)) := fun y hy => by
        have h0 := hst.out.db.m
        have := hst.out.db.rm
        have := hst.out.lt
        exact cell_of ((hy.block mb (Array.getElem?_eq_some_iff.1 h0).1 (by omega)).trans h0) rfl
      have c1 := hS.out wr (Ar.Turned.refl _ _)
      have hpl := hid (rd_place (hst.out.rd.more (Below.refl _ _).drew))
      obtain ⟨p0, p1, hp⟩ : ∃ p0 p1, plv (plN k l2) = (p0, p1) := ⟨_, _, rfl⟩
      rw [hp] at hpl
      dsimp only at hpl
      have hpA : Hid (plA k l2 = (p0, p1)) := hp
      clear hp
      have hdr : Hid (Ar.Turned (fun i => i = rb ∨ i = vb) wr wr.drew) := (Ar.Turned.refl _ _).drew
      have hrbm := hst.out.db.rm
      have hvbl := hst.out.lt
      have hpg := Ar.pcs_get (pad k V l2) k ((pad k V l2)[k]'(by rw [pad_len (by omega)]; exact hlt)) (List.getElem?_eq_getElem _)
      obtain ⟨o0, o1, hoo⟩ : ∃ o0 o1, (pad k V l2)[k]'(by rw [pad_len (by omega)]; exact hlt) = (o0, o1) := ⟨_, _, rfl⟩
      rw [hoo] at hpg
      have hpg' : Hid ((Ar.pcs (pad k V l2)).toArray[k * 2]? = some (.int .u32 o0) ∧ (Ar.pcs (pad k V l2)).toArray[k * 2 + 1]? = some (.int .i64 o1)) := hid (by simpa using hpg)
      clear hpg hoo
      go_upto_region 7 with fail
      go_region_held3 (fun w' => w'.cell? ⟨mb, 1, none⟩ = some (.slice (some ⟨vb, 0, none⟩) V V)) (first | with_reducible exact hS.out _ hdr.out | with_reducible exact hS.out _ tA | with_reducible exact hS.out _ tB | go_keep) ((go_at_call 43; refine hpl.out.mono ?_; rintro e1 y1 ⟨rfl, hr1, ht1⟩; have tA : Ar.Turned (fun i => i = rb ∨ i = vb) wr y1 := hdr.out.trans (ht1.mono (fun i hi => .inl hi)); have hv1 : y1.heap[vb]? = _ := (ht1.block vb (Array.getElem?_eq_some_iff.1 hst.out.v).1 (by omega)).trans hst.out.v; have q0 := cell_of hv1 hpg'.out.1; have q1 := cell_of hv1 hpg'.out.2; have g0 := frozen_of hv1 (k := k * 2); have g1 := frozen_of hv1 (k := k * 2 + 1); have tB := (tA.setCell (p := ⟨vb, k * 2, none⟩) (.inr rfl) (.int .u32 p0)).setCell (p := ⟨vb, k * 2 + 1, none⟩) (.inr rfl) (.int .i64 p1); replace hv1 := hid hv1; replace hr1 := hid hr1; replace ht1 := hid ht1))
      all_goals
        have hnew : Hid (Dv w ((y1.setCell ⟨vb, k * 2, none⟩ (.int .u32 p0)).setCell ⟨vb, k * 2 + 1, none⟩ (.int .i64 p1)) R rb mb vb N V l2 z2 (k + 1)) := by
          have S1 := ((Ar.Turned.refl (fun i => i = vb) y1).setCell (p := ⟨vb, k * 2, none⟩) rfl (.int .u32 p0)).setCell (p := ⟨vb, k * 2 + 1, none⟩) rfl (.int .i64 p1)
          refine ⟨hr1.out.keep S1 (fun i hi e => by omega), hst.out.db.of tB (by omega) (by omega), ?_, hvbl, hst.out.bel.trans (tB.below (fun i hi => by have := hR.out; omega) hst.out.bel.size), hR.out⟩
          rw [set_block (set_block hv1.out (k := k * 2) (.int .u32 p0)) (k := k * 2 + 1) (.int .i64 p1)]
          rw [← pad_set hlt, hpA.out, Ar.pcs_set]
          simp only [List.setIfInBounds_toArray]
        clear tA tB hr1 ht1 hv1 q0 q1 g0 g1 hS c1 hpl hdr hst hpg'
        go_wp2_with fail
        go_roundw
        case rel => exact ⟨k + 1, by omega, by go_num, hnew⟩
        case measure => simp [intOf]; omega
    · obtain rfl : k = V := by omega
      have hmn := hid (rd_many hst.out.rd)
      have hml := mnv_le (plN k l2)
      have hdl3 : Hid (plN k l2 = dl3 b) := by unfold dl3 dV; rw [hV.out, hl2.out]; exact hid rfl
      have hdz3 : Hid (plZ k l2 z2 = dz3 b) := by unfold dz3 dV dz2; rw [hV.out, hl2.out, hz2e.out]; exact hid rfl
      have hEl : mnv (plN k l2) ≤ 800 := by
        have q1 := plN_le l2 k
        have q2 := tkl_le 4 (plN k l2)
        have q3 : l2.length ≤ b.length := by rw [← hl2.out]; have := tkl_le 4 (tkl 4 b); have := tkl_le 4 b; omega
        omega
      obtain ⟨E, hE⟩ : ∃ E, mnv (plN k l2) = E := ⟨_, rfl⟩
      rw [hE] at hmn hEl
      obtain ⟨z4, hz4⟩ : ∃ z4, mnw (plN k l2) (plZ k l2 z2) = z4 := ⟨_, rfl⟩
      rw [hz4] at hmn
      obtain ⟨l4, hl4⟩ : ∃ l4, tkl 4 (plN k l2) = l4 := ⟨_, rfl⟩
      rw [hl4] at hmn
      replace hE := hid hE
      replace hz4 := hid hz4
      replace hl4 := hid hl4
      have hrbm := hst.out.db.rm
      have hvbl := hst.out.lt
      clear hml
      go_wp2_with fail
      refine hmn.out.mono ?_
      rintro e w8 ⟨rfl, h8, t8⟩
      have hdb8 := hid (hst.out.db.of t8 (by omega) (by omega))
      have hv8 := hid ((t8.block vb (Array.getElem?_eq_some_iff.1 hst.out.v).1 (by omega)).trans hst.out.v)
      have hbw8 : Hid (Below w.heap.size w w8) := hst.out.bel.trans (t8.below (fun i hi => by have := hR.out; omega) hst.out.bel.size)
      have hs8 : vb < w8.heap.size := (Array.getElem?_eq_some_iff.1 hv8.out).1
      replace h8 := hid h8
      have hsw8 := hbw8.out.size
      clear t8 hmn hst
      obtain ⟨i0, hif, hz0, hz1, hz2⟩ := info_parts infoPlace
      go_upto_region 10 with (at_make; refine wpList_make_full _ rfl (.tmp 28) (.tmp 28) 33 rfl w.heap.size 86 i0 (.agg #[.int .u32 0, .int .i64 0]) 2 Tryz.underlying33 hif hz0 hz1 .i64 .i64 _ _ E rfl rfl rfl rfl (by rw [hz2]; omega) (by unfold maxLen; omega) hsw8 ?_; intro w9 hown9 hgrow9; refine Hid.out ?_)
      have b9 := (Below.refl w8.heap.size w8).grown hgrow9 (Nat.le_refl _) (by simp)
      have he9 := block_made hown9
      rw [made_places] at he9
      have hr9 := hid (h8.out.more b9)
      have hdb9 := hdb8.out.of (Ar.Turned.ofBelow b9 (fun _ => False)) (fun q => q) (fun q => q)
      have hv9 := hid ((b9.block vb hs8).trans hv8.out)
      have hbw9 := hid (hbw8.out.trans (b9.mono hsw8))
      have heb9 : w8.heap.size < w9.heap.size := (Array.getElem?_eq_some_iff.1 he9).1
      have c2 := cell_of hdb9.m (j := 2) rfl
      have f2 := frozen_of hdb9.m (k := 2)
      clear hown9 hgrow9 b9 hif hz0 hz1 hz2 h8 hdb8 hbw8 hv8
      obtain ⟨eb, heb⟩ : ∃ eb, w8.heap.size = eb := ⟨_, rfl⟩
      rw [heb] at he9 heb9 hs8 ⊢
      have S9 := (Ar.Turned.refl (fun i => i = mb) w9).setCell (p := ⟨mb, 2, none⟩) rfl (.slice (some ⟨eb, 0, none⟩) E E)
      have hr10 := hid (hr9.out.keep S9 (fun i hi e => by omega))
      have hdb10 : Hid (Db (w9.setCell ⟨mb, 2, none⟩ (.slice (some ⟨eb, 0, none⟩) E E)) R rb mb N (.slice (some ⟨vb, 0, none⟩) k k) (.slice (some ⟨eb, 0, none⟩) E E) (.slice none 0 0)) := ⟨(S9.block R (Array.getElem?_eq_some_iff.1 hdb9.r).1 (by omega)).trans hdb9.r, set_block hdb9.m _, hdb9.rm⟩
      have hv10 := hid ((S9.block vb (Array.getElem?_eq_some_iff.1 hv9.out).1 (by omega)).trans hv9.out)
      have he10 := hid ((S9.block eb heb9 (by omega)).trans he9)
      have hbw10 : Hid (Below w.heap.size w (w9.setCell ⟨mb, 2, none⟩ (.slice (some ⟨eb, 0, none⟩) E E))) := hbw9.out.trans (S9.below (fun i hi => by have := hR.out; omega) hbw9.out.size)
      clear S9 hr9 hv9 he9 hbw9
      refine hid ?_
      go_upto_region 10 with fail
      obtain ⟨w10, hw10⟩ : ∃ w10, w9.setCell ⟨mb, 2, none⟩ (.slice (some ⟨eb, 0, none⟩) E E) = w10 := ⟨_, rfl⟩
      rw [hw10] at hr10 hdb10 hv10 he10 hbw10 ⊢
      clear hw10 c2 f2 hdb9
      have c2 := cell_of hdb10.out.m (j := 2) rfl
      have hsw10 := hbw10.out.size
      have hs10 : eb < w10.heap.size := (Array.getElem?_eq_some_iff.1 he10.out).1
      obtain ⟨i1, hjf, hy0, hy1, hy2⟩ := info_parts infoMEdge
      go_upto_region 11 with (at_make; refine wpList_make_full _ rfl (.tmp 33) (.tmp 33) 34 rfl w.heap.size 72 i1 (.agg #[.int .u32 0, .int .u32 0, .int .u32 0, .int .u32 0, .int .i32 0]) 5 Tryz.underlying34 hjf hy0 hy1 .i64 .i64 _ _ E rfl rfl rfl rfl (by rw [hy2]; omega) (by unfold maxLen; omega) hsw10 ?_; intro w11 hown11 hgrow11; refine Hid.out ?_)
      have b11 := (Below.refl w10.heap.size w10).grown hgrow11 (Nat.le_refl _) (by simp)
      have hl11 := block_made hown11
      rw [made_edges] at hl11
      have hr11 := hid (hr10.out.more b11)
      have hdb11 := hdb10.out.of (Ar.Turned.ofBelow b11 (fun _ => False)) (fun q => q) (fun q => q)
      have hv11 := hid ((b11.block vb (by omega)).trans hv10.out)
      have he11 := hid ((b11.block eb (by omega)).trans he10.out)
      have hbw11 := hid (hbw10.out.trans (b11.mono hsw10))
      have hlb11 : w10.heap.size < w11.heap.size := (Array.getElem?_eq_some_iff.1 hl11).1
      have c3 := cell_of hdb11.m (j := 3) rfl
      have f3 := frozen_of hdb11.m (k := 3)
      clear hown11 hgrow11 b11 hjf hy0 hy1 hy2 hr10 hdb10 hbw10 hv10 he10 c2
      obtain ⟨lb, hlb⟩ : ∃ lb, w10.heap.size = lb := ⟨_, rfl⟩
      rw [hlb] at hl11 hlb11 hs10 ⊢
      have S11 := (Ar.Turned.refl (fun i => i = mb) w11).setCell (p := ⟨mb, 3, none⟩) rfl (.slice (some ⟨lb, 0, none⟩) E E)
      have hde0 : Hid (De w (w11.setCell ⟨mb, 3, none⟩ (.slice (some ⟨lb, 0, none⟩) E E)) R rb mb vb eb lb N k E l2 l4 z4 0) := by
        refine ⟨hr11.out.keep S11 (fun i hi e => by omega), ⟨(S11.block R (Array.getElem?_eq_some_iff.1 hdb11.r).1 (by omega)).trans hdb11.r, set_block hdb11.m _, hdb11.rm⟩, ?_, (S11.block eb (by omega) (by omega)).trans he11.out, (S11.block lb hlb11 (by omega)).trans hl11, by omega, hbw11.out.trans (S11.below (fun i hi => by have := hR.out; omega) hbw11.out.size), hR.out⟩
        rw [← pad_full]
        exact (S11.block vb (by omega) (by omega)).trans hv11.out
      clear S11 hr11 hv11 he11 hbw11 hl11
      refine hid ?_
      go_upto_region 11 with fail
      obtain ⟨w12, hw12⟩ : ∃ w12, w11.setCell ⟨mb, 3, none⟩ (.slice (some ⟨lb, 0, none⟩) E E) = w12 := ⟨_, rfl⟩
      rw [hw12] at hde0 ⊢
      clear hw12 c3 f3 hdb11
      have c2 := cell_of hde0.out.db.m (j := 2) rfl
      go_wp2_with fail
      go_loopw [7, 39] (fun _ s39 wr => ∃ j : Nat, j ≤ E ∧ s39 = .int .i64 (j : Int) ∧ Hid (De w wr R rb mb vb eb lb N k E l2 l4 z4 j)) (fun _ s39 _ => E - (intOf s39).toNat)
      case atStart => exact ⟨0, by omega, by go_num, hde0⟩
      case round =>
        obtain ⟨j, hj, rfl, hst⟩ := hrel
        clear hde0 c2
        have hlts := hst.out.lt
        rcases Nat.lt_or_ge j E with hlt | hge
        · have j1 : (0 : Int) ≤ (j : Int) := by omega
          have j2 : (j : Int) < (E : Int) := by omega
          have hS : Hid (∀ y, Ar.Turned (fun i => i = rb ∨ i = eb) wr y → y.cell? ⟨mb, 2, none⟩ = some (.slice (some ⟨eb, 0, none⟩) E E)) := fun y hy => by
            have h0 := hst.out.db.m
            exact cell_of ((hy.block mb (Array.getElem?_eq_some_iff.1 h0).1 (by omega)).trans h0) rfl
          have c2 := hS.out wr (Ar.Turned.refl _ _)
          have hpl := hid (rd_place (hst.out.rd.more (Below.refl _ _).drew))
          obtain ⟨p0, p1, hp⟩ : ∃ p0 p1, plv (eqN j l4) = (p0, p1) := ⟨_, _, rfl⟩
          rw [hp] at hpl
          dsimp only at hpl
          replace hp := hid hp
          have hdr : Hid (Ar.Turned (fun i => i = rb ∨ i = eb) wr wr.drew) := (Ar.Turned.refl _ _).drew
          have hpg := Ar.pcs_get (padE j E l4) j ((padE j E l4)[j]'(by rw [padE_len (by omega)]; exact hlt)) (List.getElem?_eq_getElem _)
          obtain ⟨o0, o1, hoo⟩ : ∃ o0 o1, (padE j E l4)[j]'(by rw [padE_len (by omega)]; exact hlt) = (o0, o1) := ⟨_, _, rfl⟩
          rw [hoo] at hpg
          have hpg' : Hid ((Ar.pcs (padE j E l4)).toArray[j * 2]? = some (.int .u32 o0) ∧ (Ar.pcs (padE j E l4)).toArray[j * 2 + 1]? = some (.int .i64 o1)) := hid (by simpa using hpg)
          clear hpg hoo
          go_upto_region 14 with fail
          go_region_held3 (fun w' => w'.cell? ⟨mb, 2, none⟩ = some (.slice (some ⟨eb, 0, none⟩) E E)) (first | with_reducible exact hS.out _ hdr.out | with_reducible exact hS.out _ tA | with_reducible exact hS.out _ tB | go_keep) ((go_at_call 43; refine hpl.out.mono ?_; rintro e1 y1 ⟨rfl, hr1, ht1⟩; have tA : Ar.Turned (fun i => i = rb ∨ i = eb) wr y1 := hdr.out.trans (ht1.mono (fun i hi => .inl hi)); have hv1 : y1.heap[eb]? = _ := (ht1.block eb (Array.getElem?_eq_some_iff.1 hst.out.e).1 (by omega)).trans hst.out.e; have q0 := cell_of hv1 hpg'.out.1; have q1 := cell_of hv1 hpg'.out.2; have g0 := frozen_of hv1 (k := j * 2); have g1 := frozen_of hv1 (k := j * 2 + 1); have tB := (tA.setCell (p := ⟨eb, j * 2, none⟩) (.inr rfl) (.int .u32 p0)).setCell (p := ⟨eb, j * 2 + 1, none⟩) (.inr rfl) (.int .i64 p1); replace hv1 := hid hv1; replace hr1 := hid hr1; replace ht1 := hid ht1))
          all_goals
            obtain ⟨y2, hy2⟩ : ∃ y2, (y1.setCell ⟨eb, j * 2, none⟩ (.int .u32 p0)).setCell ⟨eb, j * 2 + 1, none⟩ (.int .i64 p1) = y2 := ⟨_, rfl⟩
            have hr2 : Hid (Rd y2 rb (pll (eqN j l4)) (plw (eqN j l4) (eqZ j l4 z4))) := by
              rw [← hy2]
              exact hr1.out.keep (((Ar.Turned.refl (fun i => i = eb) y1).setCell (p := ⟨eb, j * 2, none⟩) rfl (.int .u32 p0)).setCell (p := ⟨eb, j * 2 + 1, none⟩) rfl (.int .i64 p1)) (fun i hi e => by omega)
            have he2 : Hid (y2.heap[eb]? = some (Obj.cells (Ar.pcs (padE (j + 1) E l4)).toArray 86 (0, 0))) := by
              rw [← hy2]
              show _ = _
              rw [set_block (set_block hv1.out (k := j * 2) (.int .u32 p0)) (k := j * 2 + 1) (.int .i64 p1)]
              rw [← padE_set hlt, hp.out, Ar.pcs_set]
              simp only [List.setIfInBounds_toArray]
            rw [hy2] at tB ⊢
            have hdb2 := hid (hst.out.db.of tB (by omega) (by omega))
            have hv2 := hid ((tB.block vb (Array.getElem?_eq_some_iff.1 hst.out.v).1 (by omega)).trans hst.out.v)
            have hl2' := hid ((tB.block lb (Array.getElem?_eq_some_iff.1 hst.out.l).1 (by omega)).trans hst.out.l)
            have hbw2' : Hid (Below w.heap.size w y2) := hst.out.bel.trans (tB.below (fun i hi => by have := hR.out; omega) hst.out.bel.size)
            have d2 := cell_of hdb2.out.m (j := 2) rfl
            have hpe : Hid ((Ar.pcs (padE (j + 1) E l4)).toArray[j * 2 + 1]? = some (.int .i64 p1)) := by
              have := (Ar.pcs_get (padE (j + 1) E l4) j (p0, p1) (by rw [← padE_set hlt, hp.out, List.getElem?_set_self (by rw [padE_len (by omega)]; exact hlt)])).2
              exact hid (by simpa using this)
            have d3 := cell_of he2.out hpe.out
            clear tA tB hr1 ht1 hv1 q0 q1 g0 g1 hS c2 hpl hdr hst hpg' hy2 hpe
            by_cases hp1 : p1 = 1
            · have t1 : (p1 == 1) = true := by simp [hp1]
              have hlive : Hid ((plv (eqN j l4)).2 = 1) := by rw [hp.out]; exact hp1
              clear hp1
              have hS : Hid (∀ y, Ar.Turned (fun i => i = rb ∨ i = lb) y2 y → y.cell? ⟨mb, 3, none⟩ = some (.slice (some ⟨lb, 0, none⟩) E E)) := fun y hy => by
                have h0 := hdb2.out.m
                exact cell_of ((hy.block mb (Array.getElem?_eq_some_iff.1 h0).1 (by omega)).trans h0) rfl
              have c3 := hS.out y2 (Ar.Turned.refl _ _)
              have heg := hid (rd_edge (hr2.out.more (Below.refl _ _).drew))
              obtain ⟨x, hx⟩ : ∃ x, egl (pll (eqN j l4)) = x := ⟨_, rfl⟩
              rw [hx] at heg
              unfold ecA at heg
              replace hx := hid hx
              have hdr : Hid (Ar.Turned (fun i => i = rb ∨ i = lb) y2 y2.drew) := (Ar.Turned.refl _ _).drew
              obtain ⟨xo, hxo⟩ : ∃ xo, (padL j E l4)[j]? = some xo := ⟨_, List.getElem?_eq_getElem (by rw [padL_len (by omega)]; exact hlt)⟩
              have hxg := ecs_get (padL j E l4) j xo hxo
              have hxg' : Hid ((ecs (padL j E l4)).toArray[j * 5]? = some (.int .u32 (xo.f0 : Int)) ∧ (ecs (padL j E l4)).toArray[j * 5 + 1]? = some (.int .u32 (xo.f1 : Int)) ∧ (ecs (padL j E l4)).toArray[j * 5 + 2]? = some (.int .u32 (xo.n0 : Int)) ∧ (ecs (padL j E l4)).toArray[j * 5 + 3]? = some (.int .u32 (xo.n1 : Int)) ∧ (ecs (padL j E l4)).toArray[j * 5 + 4]? = some (.int .i32 xo.w)) := hid (by simpa using hxg)
              clear hxg hxo
              go_upto_region 16 with fail
              go_region_held3 (fun w' => w'.cell? ⟨mb, 3, none⟩ = some (.slice (some ⟨lb, 0, none⟩) E E)) (first | with_reducible exact hS.out _ hdr.out | with_reducible exact hS.out _ tA | with_reducible exact hS.out _ tB | go_keep) ((go_at_call 44; refine heg.out.mono ?_; rintro e1 y3 ⟨rfl, hr3, ht3⟩; have tA : Ar.Turned (fun i => i = rb ∨ i = lb) y2 y3 := hdr.out.trans (ht3.mono (fun i hi => .inl hi)); have hv3 : y3.heap[lb]? = _ := (ht3.block lb (Array.getElem?_eq_some_iff.1 hl2'.out).1 (by omega)).trans hl2'.out; have q0 := cell_of hv3 hxg'.out.1; have q1 := cell_of hv3 hxg'.out.2.1; have q2 := cell_of hv3 hxg'.out.2.2.1; have q3 := cell_of hv3 hxg'.out.2.2.2.1; have q4 := cell_of hv3 hxg'.out.2.2.2.2; have g0 := frozen_of hv3 (k := j * 5); have g1 := frozen_of hv3 (k := j * 5 + 1); have g2 := frozen_of hv3 (k := j * 5 + 2); have g3 := frozen_of hv3 (k := j * 5 + 3); have g4 := frozen_of hv3 (k := j * 5 + 4); have tB := ((((tA.setCell (p := ⟨lb, j * 5, none⟩) (.inr rfl) (.int .u32 (x.f0 : Int))).setCell (p := ⟨lb, j * 5 + 1, none⟩) (.inr rfl) (.int .u32 (x.f1 : Int))).setCell (p := ⟨lb, j * 5 + 2, none⟩) (.inr rfl) (.int .u32 (x.n0 : Int))).setCell (p := ⟨lb, j * 5 + 3, none⟩) (.inr rfl) (.int .u32 (x.n1 : Int))).setCell (p := ⟨lb, j * 5 + 4, none⟩) (.inr rfl) (.int .i32 x.w); replace hv3 := hid hv3; replace hr3 := hid hr3; replace ht3 := hid ht3))
              all_goals
                have hnew : Hid (De w (((((y3.setCell ⟨lb, j * 5, none⟩ (.int .u32 (x.f0 : Int))).setCell ⟨lb, j * 5 + 1, none⟩ (.int .u32 (x.f1 : Int))).setCell ⟨lb, j * 5 + 2, none⟩ (.int .u32 (x.n0 : Int))).setCell ⟨lb, j * 5 + 3, none⟩ (.int .u32 (x.n1 : Int))).setCell ⟨lb, j * 5 + 4, none⟩ (.int .i32 x.w)) R rb mb vb eb lb N k E l2 l4 z4 (j + 1)) := by
                  have S1 := (((((Ar.Turned.refl (fun i => i = lb) y3).setCell (p := ⟨lb, j * 5, none⟩) rfl (.int .u32 (x.f0 : Int))).setCell (p := ⟨lb, j * 5 + 1, none⟩) rfl (.int .u32 (x.f1 : Int))).setCell (p := ⟨lb, j * 5 + 2, none⟩) rfl (.int .u32 (x.n0 : Int))).setCell (p := ⟨lb, j * 5 + 3, none⟩) rfl (.int .u32 (x.n1 : Int))).setCell (p := ⟨lb, j * 5 + 4, none⟩) rfl (.int .i32 x.w)
                  refine ⟨?_, hdb2.out.of tB (by omega) (by omega), (tB.block vb (Array.getElem?_eq_some_iff.1 hv2.out).1 (by omega)).trans hv2.out, (tB.block eb (Array.getElem?_eq_some_iff.1 he2.out).1 (by omega)).trans he2.out, ?_, hlts, hbw2'.out.trans (tB.below (fun i hi => by have := hR.out; omega) hbw2'.out.size), hR.out⟩
                  · have e1 : eqN (j + 1) l4 = tkn 5 (pll (eqN j l4)) := by show eqL1 _ = _; unfold eqL1; rw [if_pos hlive.out]
                    have e2 : eqZ (j + 1) l4 z4 = tkz 5 (pll (eqN j l4)) (plw (eqN j l4) (eqZ j l4 z4)) := by show eqZ1 _ _ = _; unfold eqZ1; rw [if_pos hlive.out]
                    rw [e1, e2]
                    exact hr3.out.keep S1 (fun i hi e => by omega)
                  · rw [set_block (set_block (set_block (set_block (set_block hv3.out (k := j * 5) (.int .u32 (x.f0 : Int))) (k := j * 5 + 1) (.int .u32 (x.f1 : Int))) (k := j * 5 + 2) (.int .u32 (x.n0 : Int))) (k := j * 5 + 3) (.int .u32 (x.n1 : Int))) (k := j * 5 + 4) (.int .i32 x.w)]
                    have e3 : (eqA1 (eqN j l4)).2 = x := by unfold eqA1; dsimp only; rw [if_pos hlive.out, hx.out]
                    rw [← padL_set hlt, e3, ecs_set]
                    simp only [List.setIfInBounds_toArray]
                clear tA tB hr3 ht3 hv3 q0 q1 q2 q3 q4 g0 g1 g2 g3 g4 hS c3 heg hdr hxg' hr2 he2 hdb2 hv2 hl2' hbw2'
                go_wp2_with fail
                go_roundw
                case rel => exact ⟨j + 1, by omega, by go_num, hnew⟩
                case measure => simp [intOf]; omega
            · have t1 : (p1 == 1) = false := by simp [hp1]
              have hdead : Hid (¬ (plv (eqN j l4)).2 = 1) := by rw [hp.out]; exact hp1
              have hnew : Hid (De w y2 R rb mb vb eb lb N k E l2 l4 z4 (j + 1)) := by
                refine ⟨?_, hdb2.out, hv2.out, he2.out, ?_, hlts, hbw2'.out, hR.out⟩
                · have e1 : eqN (j + 1) l4 = pll (eqN j l4) := by show eqL1 _ = _; unfold eqL1; rw [if_neg hdead.out]
                  have e2 : eqZ (j + 1) l4 z4 = plw (eqN j l4) (eqZ j l4 z4) := by show eqZ1 _ _ = _; unfold eqZ1; rw [if_neg hdead.out]
                  rw [e1, e2]; exact hr2.out
                · rw [padL_same hlt l4 (by unfold eqA1; dsimp only; rw [if_neg hdead.out])]; exact hl2'.out
              clear hp1 hr2 he2 hdb2 hv2 hl2' hbw2'
              go_wp2_with fail
              go_roundw
              case rel => exact ⟨j + 1, by omega, by go_num, hnew⟩
              case measure => simp [intOf]; omega
        · obtain rfl : j = E := by omega
          have hdm : Hid (dM b = ⟨(N : Int), pls k l2, (eqs j l4).map (·.1), (eqs j l4).map (·.2)⟩) := by
            show _ = _
            unfold dM dE
            rw [← hdl3.out, hE.out, hl4.out]
            unfold dV
            rw [hV.out, hl2.out, hN.out]
          have hmpA : Hid (∀ y : World, y.heap[vb]? = wr.heap[vb]? → y.heap[eb]? = wr.heap[eb]? → y.heap[lb]? = wr.heap[lb]? → Mp y (.slice (some ⟨vb, 0, none⟩) k k) (.slice (some ⟨eb, 0, none⟩) j j) (.slice (some ⟨lb, 0, none⟩) j j) (dM b)) := fun y q1 q2 q3 => by
            rw [hdm.out]
            refine ⟨pv_block (q1.trans hst.out.v) (pls_len _ _) (by omega) (fun p hp => ?_), pv_block (by rw [← padE_full]; exact q2.trans hst.out.e) (by rw [List.length_map, eqs_len]) (by omega) (fun p hp => ?_), egv_block (by rw [← padL_full]; exact q3.trans hst.out.l) (by rw [List.length_map, eqs_len]) (by omega) (fun x hx => ?_)⟩
            · unfold pls at hp
              obtain ⟨i, _, rfl⟩ := List.mem_map.1 hp
              exact ⟨(plv_pn _).1, (plv_pn _).2.1⟩
            · obtain ⟨q, hq, rfl⟩ := List.mem_map.1 hp
              unfold eqs at hq
              obtain ⟨i, _, rfl⟩ := List.mem_map.1 hq
              exact ⟨(eqA1_qn _).1.1, (eqA1_qn _).1.2.1⟩
            · obtain ⟨q, hq, rfl⟩ := List.mem_map.1 hx
              unfold eqs at hq
              obtain ⟨i, _, rfl⟩ := List.mem_map.1 hq
              exact (eqA1_qn _).2.1
          have hmp := hid (hmpA.out wr rfl rfl rfl)
          have hin : Hid (vb < wr.heap.size ∧ eb < wr.heap.size ∧ lb < wr.heap.size) := ⟨(Array.getElem?_eq_some_iff.1 hst.out.v).1, (Array.getElem?_eq_some_iff.1 hst.out.e).1, (Array.getElem?_eq_some_iff.1 hst.out.l).1⟩
          have hRb := hid hst.out.db.r
          have hrmh := hst.out.db.rm
          have hlens : Hid ((dM b).n = (N : Int) ∧ (dM b).vs.length ≤ 1000 ∧ (dM b).es.length ≤ 1000 ∧ (dM b).l.length ≤ 1000) := by
            rw [hdm.out]
            exact ⟨rfl, by rw [pls_len]; omega, by rw [List.length_map, eqs_len]; omega, by rw [List.length_map, eqs_len]; omega⟩
          have hzz : Hid (eqZ j l4 z4 = dz5 b) := by
            show _ = _
            unfold dz5 dE
            rw [← hdl3.out, ← hdz3.out, hE.out, hl4.out, hz4.out]
          have hll : Hid (eqN j l4 = dl5 b) := by
            show _ = _
            unfold dl5 dE
            rw [← hdl3.out, hE.out, hl4.out]
          have hdi := hid (dec_is b)
          obtain ⟨rad, rcap, hrb1, _, _⟩ := hst.out.rd
          obtain ⟨zz, hzz1⟩ : ∃ zz, eqZ j l4 z4 = zz := ⟨_, rfl⟩
          obtain ⟨nl, hnl⟩ : ∃ nl, (eqN j l4).length = nl := ⟨_, rfl⟩
          rw [hzz1, hnl] at hrb1
          have r0 := cell_of hrb1 (j := 0) rfl
          have r1 := cell_of hrb1 (j := 1) rfl
          replace hzz1 := hid hzz1
          replace hnl := hid hnl
          have m0 := cell_of hst.out.db.m (j := 0) rfl
          have m1 := cell_of hst.out.db.m (j := 1) rfl
          have m2 := cell_of hst.out.db.m (j := 2) rfl
          have m3 := cell_of hst.out.db.m (j := 3) rfl
          have x0 := cell_of hst.out.db.r (j := 0) rfl
          have x1 := cell_of hst.out.db.r (j := 1) rfl
          have x2 := cell_of hst.out.db.r (j := 2) rfl
          have x3 := cell_of hst.out.db.r (j := 3) rfl
          have y0 := frozen_of hst.out.db.r (k := 0)
          have y1 := frozen_of hst.out.db.r (k := 1)
          have y2 := frozen_of hst.out.db.r (k := 2)
          have y3 := frozen_of hst.out.db.r (k := 3)
          have hres : Hid (∀ y, Below wr.heap.size wr y → ∀ a0 a1 a2 a3, (((((y.setCell ⟨R, 0, none⟩ a0).setCell ⟨R, 1, none⟩ a1).setCell ⟨R, 2, none⟩ a2).setCell ⟨R, 3, none⟩ a3).heap[R]? = some (Obj.cells #[a0, a1, a2, a3] 36 (0, 0))) ∧ Below w.heap.size w ((((y.setCell ⟨R, 0, none⟩ a0).setCell ⟨R, 1, none⟩ a1).setCell ⟨R, 2, none⟩ a2).setCell ⟨R, 3, none⟩ a3) ∧ Ar.Turned (fun i => i = R) y ((((y.setCell ⟨R, 0, none⟩ a0).setCell ⟨R, 1, none⟩ a1).setCell ⟨R, 2, none⟩ a2).setCell ⟨R, 3, none⟩ a3)) := fun y hy a0 a1 a2 a3 => by
            have S := ((((Ar.Turned.refl (fun i => i = R) y).setCell (p := ⟨R, 0, none⟩) rfl a0).setCell (p := ⟨R, 1, none⟩) rfl a1).setCell (p := ⟨R, 2, none⟩) rfl a2).setCell (p := ⟨R, 3, none⟩) rfl a3
            have hb := hst.out.bel.trans (hy.mono hst.out.bel.size)
            refine ⟨set_block (set_block (set_block (set_block ((hy.block R (Array.getElem?_eq_some_iff.1 hst.out.db.r).1).trans hst.out.db.r) (k := 0) a0) (k := 1) a1) (k := 2) a2) (k := 3) a3, hb.trans (S.below (fun i hi => by have := hR.out; omega) hb.size), S⟩
          have hck := hid (check17_ok (n := (N : Int)) hmp.out hlens.out.1 (tab_below hTh.out hst.out.bel) (by have := hst.out.bel.size; omega) hlens.out.2.1 hlens.out.2.2.1 hlens.out.2.2.2)
          clear hst hrb1
          cases zz with
          | true =>
            have hno : Hid (∀ m, ¬ Is b m) := fun m hm => by
              have := (hdi.out.1 ⟨m, hm⟩).1
              rw [← hzz.out, hzz1.out] at this
              cases this
            go_wp2_with fail
            refine bodyPost_ret (results_cell2 rfl _ _ R 36 _ (0, 0) _ rfl (hres.out _ (Below.refl _ _) _ _ _ _).1 Tryz.underlying36 rfl (by kernel_rfl)) rfl ?_
            exact ⟨(hres.out _ (Below.refl _ _) _ _ _ _).2.1, .inr ⟨hno.out, rfl⟩⟩
          | false =>
            by_cases hn0 : nl = 0
            · subst hn0
              have hl0 : Hid (dl5 b = []) := by rw [← hll.out]; exact List.eq_nil_of_length_eq_zero hnl.out
              have hz0 : Hid (dz5 b = false) := by rw [← hzz.out]; exact hzz1.out
              go_wp2_with fail
              refine hck.out.mono ?_
              rintro e w13 ⟨b13, ⟨hq, rfl⟩ | ⟨hq, rfl⟩⟩
              · obtain ⟨he1, he2⟩ := dec_sound hz0.out hl0.out
                have hmn : Hid ((dM b).n = (N : Int)) := hlens.out.1
                have hcs : ∀ (g k : Nat) (u : Value), wr.cell? ⟨g, k, none⟩ = some u → w13.cell? ⟨g, k, none⟩ = some u := fun g k u hu => (b13.cell (World.block_lt_of_cell? wr _ hu)).trans hu
                have m0' := hcs _ _ _ m0
                have m1' := hcs _ _ _ m1
                have m2' := hcs _ _ _ m2
                have m3' := hcs _ _ _ m3
                have x0' := hcs _ _ _ x0
                have x1' := hcs _ _ _ x1
                have x2' := hcs _ _ _ x2
                have x3' := hcs _ _ _ x3
                have hR13 := (b13.block R (Array.getElem?_eq_some_iff.1 hRb.out).1).trans hRb.out
                have y0' := frozen_of hR13 (k := 0)
                have y1' := frozen_of hR13 (k := 1)
                have y2' := frozen_of hR13 (k := 2)
                have y3' := frozen_of hR13 (k := 3)
                have hfin := hid (hres.out w13 b13 (.int .i64 (N : Int)) (.slice (some ⟨vb, 0, none⟩) k k) (.slice (some ⟨eb, 0, none⟩) j j) (.slice (some ⟨lb, 0, none⟩) j j))
                have hin13 := b13.size
                have hmpf := hid (hmpA.out _ ((hfin.out.2.2.block vb (by have := hin.out; omega) (by omega)).trans (b13.block vb hin.out.1)) ((hfin.out.2.2.block eb (by have := hin.out; omega) (by omega)).trans (b13.block eb hin.out.2.1)) ((hfin.out.2.2.block lb (by have := hin.out; omega) (by omega)).trans (b13.block lb hin.out.2.2)))
                have his : Hid (Is b (dM b)) := ⟨he2, hq, he1⟩
                clear he1 he2 hq hcs m0 m1 m2 m3 x0 x1 x2 x3 y0 y1 y2 y3 hR13 b13 hck hres hmpA hmp
                go_wp2_with fail
                refine bodyPost_ret (results_cell2 rfl _ _ R 36 _ (0, 0) _ rfl hfin.out.1 Tryz.underlying36 rfl (by kernel_rfl)) rfl ?_
                exact ⟨hfin.out.2.1, .inl ⟨dM b, _, _, _, his.out, by rw [hmn.out]; rfl, hmpf.out, hlens.out.2⟩⟩
              · have hno : Hid (∀ m, ¬ Is b m) := fun m hm => hq (hdi.out.1 ⟨m, hm⟩).2.2
                have hcs : ∀ (g k : Nat) (u : Value), wr.cell? ⟨g, k, none⟩ = some u → w13.cell? ⟨g, k, none⟩ = some u := fun g k u hu => (b13.cell (World.block_lt_of_cell? wr _ hu)).trans hu
                have x0' := hcs _ _ _ x0
                have x1' := hcs _ _ _ x1
                have x2' := hcs _ _ _ x2
                have x3' := hcs _ _ _ x3
                have hR13 := (b13.block R (Array.getElem?_eq_some_iff.1 hRb.out).1).trans hRb.out
                have y0' := frozen_of hR13 (k := 0)
                have y1' := frozen_of hR13 (k := 1)
                have y2' := frozen_of hR13 (k := 2)
                have y3' := frozen_of hR13 (k := 3)
                have hfin := hid (fun a0 a1 a2 a3 => hres.out w13 b13 a0 a1 a2 a3)
                clear hq hcs m0 m1 m2 m3 x0 x1 x2 x3 y0 y1 y2 y3 hR13 b13 hck hres hmpA hmp
                go_wp2_with fail
                refine bodyPost_ret (results_cell2 rfl _ _ R 36 _ (0, 0) _ rfl (hfin.out _ _ _ _).1 Tryz.underlying36 rfl (by kernel_rfl)) rfl ?_
                exact ⟨(hfin.out _ _ _ _).2.1, .inr ⟨hno.out, rfl⟩⟩
            · have t0 : decide ((0 : Int) < (nl : Int)) = true := decide_eq_true (by omega)
              have t0' : decide (0 < nl) = true := decide_eq_true (by omega)
              have hno : Hid (∀ m, ¬ Is b m) := fun m hm => by
                have := (hdi.out.1 ⟨m, hm⟩).2.1
                rw [← hll.out] at this
                have h5 := hnl.out
                rw [this] at h5
                exact hn0 h5.symm
              go_wp2_with fail
              refine bodyPost_ret (results_cell2 rfl _ _ R 36 _ (0, 0) _ rfl (hres.out _ (Below.refl _ _) _ _ _ _).1 Tryz.underlying36 rfl (by kernel_rfl)) rfl ?_
              exact ⟨(hres.out _ (Below.refl _ _) _ _ _ _).2.1, .inr ⟨hno.out, rfl⟩⟩

end Go.Proofs.YtboafgimjadboaaGreatDoor
