/- The document's Decode, walked. -/
import Derived.Test.YtboafgimjadboaaGreatDoorBdec
import Derived.Test.YtboafgimjadboaaGreatDoorBlaw
import Derived.Test.YtboafgimjadboaaGreatDoorBrr
namespace Go.Proofs.YtboafgimjadboaaGreatDoor
open Go.RowKit
set_option linter.unusedVariables false

theorem infoRPlace : (Tryz.prog.info? 58).map (fun i => (i.zero, i.size, i.bytes)) = some (some (.agg #[.int .u32 0, .int .i64 0]), 2, 16) := by kernel_rfl
theorem infoREdge : (Tryz.prog.info? 61).map (fun i => (i.zero, i.size, i.bytes)) = some (some (.agg #[.int .u32 0, .int .u32 0, .int .u32 0, .int .u32 0, .int .i32 0]), 5, 20) := by kernel_rfl

/-- The n bytes from a place on, whether they are there or not. -/
theorem word_any {w : World} {ad : Option Addr} {n cap : Nat} {b : List UInt8} (hb : Wi.Bytes w ad cap b) (hn : b.length = n) (hbl : b.length ≤ 1500) {k N : Nat} {l : List UInt8} (hc : k + N ≤ n → Cu b k l) (hk9 : k ≤ 100000) {kk nn : Int} (hk : kk = (k : Int)) (hN : nn = (N : Int)) (h1 : 1 ≤ N) (h8 : N ≤ 8) (z : Bool) (hz : z = true ↔ k + N ≤ n) (x : Nat) (hx : x = if k + N ≤ n then tkv N l else 0) :
    Calls Tryz.prog 45 #[.slice ad n cap, .int .i64 kk, .int .i64 nn] w fun e w' => e = .returned (.tuple #[.int .u64 (x : Int), .bool z]) ∧ Below w.heap.size w w' := by
  refine (rword_ok hb hn.symm hbl k N hk hN h1 h8 hk9).mono ?_
  rintro e w' ⟨h, ⟨h2, rfl⟩ | ⟨h2, rfl⟩⟩
  · refine ⟨?_, h⟩
    rw [hx, if_pos h2, (hc h2).val N (by omega), hz.2 h2]
  · refine ⟨?_, h⟩
    have : z = false := by cases z with
      | false => rfl
      | true => have := hz.1 rfl; omega
    rw [hx, if_neg (by omega), this]
    rfl

/-- Numbers that stay as they are. -/
theorem wp17 {p n : Nat} (h : p ≤ n) (hn : n ≤ 1500) (a : Int) (h0 : 0 ≤ a) (h1 : a ≤ 100) : wrap64 ((p : Int) + a) = (p : Int) + a := IntWalk.wrap64_in _ ⟨by omega, by omega⟩
theorem wu17 {p : Nat} (h : p < 4294967296) : wrap64 (p : Int) = (p : Int) ∧ IntKind.u32.wrap (p : Int) = (p : Int) := ⟨IntWalk.wrap64_in _ ⟨by omega, by omega⟩, by rw [IntKind.wrap_u32]; omega⟩
theorem wul17 {n : Nat} (h : n ≤ 1500) : IntKind.u64.wrap (n : Int) = (n : Int) := by rw [IntKind.wrap_u64]; omega
theorem wx64 {n : Nat} (h : n < 4294967296) : IntKind.u64.wrap (n : Int) = (n : Int) := by rw [IntKind.wrap_u64]; omega
theorem gn17 {a : Int} {k : Nat} (h : a = (k : Int)) : Value.int .i64 a = .int .i64 (k : Int) := by rw [h]
theorem ms17 {E j : Nat} {a : Int} (h : a = ((j + 1 : Nat) : Int)) (hj : j < E) : E - (intOf (.int .i64 a)).toNat < E - (intOf (.int .i64 (j : Int))).toNat := by subst h; simp [intOf]; omega
theorem cap17 {i : Nat} (h : i + 1 ≤ 1500) : i + 1 ≤ maxLen ∧ (i + 1) * 16 ≤ 140737488355328 ∧ (i + 1) * 20 ≤ 140737488355328 := ⟨by unfold maxLen; omega, by omega, by omega⟩
theorem alloc_le {a : Nat} {w : World} (h : a ≤ w.heap.size) (o : Obj) : a ≤ (w.alloc o).heap.size := by simp; omega

/-- A place, an edge, in a block of its own. -/
theorem rpcs_new (w : World) (a s : Int) : ∀ j u, (Ar.pcs [(a, s)])[j]? = some u → (w.alloc (.cells #[.int .u32 a, .int .i64 s] 58)).cell? ((⟨w.heap.size, 0, none⟩ : Addr).add j) = some u := by
  intro j u hu
  rw [add_plain, Nat.zero_add]
  exact cell_of (new_of w _ _) (by simpa [Ar.pcs] using hu)
theorem recs_new (w : World) (x : Eg) : ∀ j u, (ecs [x])[j]? = some u → (w.alloc (.cells #[.int .u32 (x.f0 : Int), .int .u32 (x.f1 : Int), .int .u32 (x.n0 : Int), .int .u32 (x.n1 : Int), .int .i32 x.w] 61)).cell? ((⟨w.heap.size, 0, none⟩ : Addr).add j) = some u := by
  intro j u hu
  rw [add_plain, Nat.zero_add]
  exact cell_of (new_of w _ _) (by simpa [ecs] using hu)

/-- Four cells stored. -/
theorem four_store {w y : World} {R : Nat} {c0 c1 c2 c3 : Value} {t : TypeId} (h : y.heap[R]? = some (Obj.cells #[c0, c1, c2, c3] t (0, 0))) (hb : Below w.heap.size w y) (hR : w.heap.size ≤ R) (a0 a1 a2 a3 : Value) :
    ((((y.setCell ⟨R, 0, none⟩ a0).setCell ⟨R, 1, none⟩ a1).setCell ⟨R, 2, none⟩ a2).setCell ⟨R, 3, none⟩ a3).heap[R]? = some (Obj.cells #[a0, a1, a2, a3] t (0, 0)) ∧ Below w.heap.size w ((((y.setCell ⟨R, 0, none⟩ a0).setCell ⟨R, 1, none⟩ a1).setCell ⟨R, 2, none⟩ a2).setCell ⟨R, 3, none⟩ a3) ∧ Ar.Turned (fun k => k = R) y ((((y.setCell ⟨R, 0, none⟩ a0).setCell ⟨R, 1, none⟩ a1).setCell ⟨R, 2, none⟩ a2).setCell ⟨R, 3, none⟩ a3) := by
  have S := ((((Ar.Turned.refl (fun i => i = R) y).setCell (p := ⟨R, 0, none⟩) rfl a0).setCell (p := ⟨R, 1, none⟩) rfl a1).setCell (p := ⟨R, 2, none⟩) rfl a2).setCell (p := ⟨R, 3, none⟩) rfl a3
  exact ⟨set_block (set_block (set_block (set_block h (k := 0) a0) (k := 1) a1) (k := 2) a2) (k := 3) a3, hb.trans (S.below (fun i hi => by omega) hb.size), S⟩

/-- Where it stands: the result's block, the model's. -/
structure Dd (w w5 wr : World) (R mb N : Nat) (vv ev lv : Value) : Prop where
  r : wr.heap[R]? = some (Obj.cells #[.int .i64 0, .slice none 0 0, .slice none 0 0, .slice none 0 0] 25 (0, 0))
  m : wr.heap[mb]? = some (Obj.cells #[.int .i64 (N : Int), vv, ev, lv] 25 (0, 0))
  tur : Ar.Turned (fun k => k = mb) w5 wr
  bel : Below w.heap.size w w5
  lt : w.heap.size ≤ R ∧ R < mb ∧ mb < w5.heap.size

section
variable {w w5 wr y : World} {R mb N : Nat} {vv ev lv : Value}
theorem Dd.belw (h : Dd w w5 wr R mb N vv ev lv) : Below w.heap.size w wr := h.bel.trans (h.tur.below (fun i hi => by have := h.lt; omega) h.bel.size)
theorem Dd.keep (h : Dd w w5 wr R mb N vv ev lv) {S : Nat → Prop} (ht : Ar.Turned S wr y) (hS : ∀ k, k < w5.heap.size → ¬ S k) : Dd w w5 y R mb N vv ev lv := by
  have := h.lt
  exact ⟨(ht.block R (Array.getElem?_eq_some_iff.1 h.r).1 (hS _ (by omega))).trans h.r, (ht.block mb (Array.getElem?_eq_some_iff.1 h.m).1 (hS _ (by omega))).trans h.m, h.tur.then ht (fun i hi hs => absurd hs (hS i hi)), h.bel, h.lt⟩
theorem Dd.more (h : Dd w w5 wr R mb N vv ev lv) (hb : Below wr.heap.size wr y) : Dd w w5 y R mb N vv ev lv := h.keep (S := fun _ => False) (Ar.Turned.ofBelow hb _) (fun _ _ q => q)
theorem Dd.set1 (h : Dd w w5 wr R mb N vv ev lv) (u : Value) : Dd w w5 (wr.setCell ⟨mb, 1, none⟩ u) R mb N u ev lv := by
  have S := (Ar.Turned.refl (fun i => i = mb) wr).setCell (p := ⟨mb, 1, none⟩) rfl u
  have := h.lt
  exact ⟨(S.block R (Array.getElem?_eq_some_iff.1 h.r).1 (by omega)).trans h.r, set_block h.m _, h.tur.trans S, h.bel, h.lt⟩
theorem Dd.set2 (h : Dd w w5 wr R mb N vv ev lv) (u : Value) : Dd w w5 (wr.setCell ⟨mb, 2, none⟩ u) R mb N vv u lv := by
  have S := (Ar.Turned.refl (fun i => i = mb) wr).setCell (p := ⟨mb, 2, none⟩) rfl u
  have := h.lt
  exact ⟨(S.block R (Array.getElem?_eq_some_iff.1 h.r).1 (by omega)).trans h.r, set_block h.m _, h.tur.trans S, h.bel, h.lt⟩
theorem Dd.set3 (h : Dd w w5 wr R mb N vv ev lv) (u : Value) : Dd w w5 (wr.setCell ⟨mb, 3, none⟩ u) R mb N vv ev u := by
  have S := (Ar.Turned.refl (fun i => i = mb) wr).setCell (p := ⟨mb, 3, none⟩) rfl u
  have := h.lt
  exact ⟨(S.block R (Array.getElem?_eq_some_iff.1 h.r).1 (by omega)).trans h.r, set_block h.m _, h.tur.trans S, h.bel, h.lt⟩
/-- What the ends want. -/
theorem Dd.fin (h : Dd w w5 wr R mb N vv ev lv) : (wr.cell? ⟨R, 0, none⟩ = some (.int .i64 0) ∧ wr.cell? ⟨R, 1, none⟩ = some (.slice none 0 0) ∧ wr.cell? ⟨R, 2, none⟩ = some (.slice none 0 0) ∧ wr.cell? ⟨R, 3, none⟩ = some (.slice none 0 0)) ∧ ∀ k, wr.frozen? ⟨R, k, none⟩ = false :=
  ⟨⟨cell_of h.r (j := 0) rfl, cell_of h.r (j := 1) rfl, cell_of h.r (j := 2) rfl, cell_of h.r (j := 3) rfl⟩, fun _ => frozen_of h.r⟩
end

/-- Rows of two types lie apart. -/
theorem row_apart {w : World} {base base' e e' size size' n n' : Nat} {v v' : Value} {xs xs' : List Value} (h : w.ownsRow base e size v n xs) (h' : w.ownsRow base' e' size' v' n' xs') (he : e ≠ e') : v.ownBlock = none ∨ v.ownBlock ≠ v'.ownBlock := by
  rcases h.2 with ⟨rfl, _⟩ | ⟨g, cap, cur, rfl, _, hg, _⟩
  · exact .inl rfl
  · refine .inr (fun q => ?_)
    rcases h'.2 with ⟨rfl, _⟩ | ⟨g', cap', cur', rfl, _, hg', _⟩
    · simp [Value.ownBlock] at q
    · simp [Value.ownBlock] at q
      subst q
      rw [hg] at hg'
      simp at hg'
      first | exact he hg'.2.1 | exact he hg'.2 | exact he hg' | (obtain ⟨_, h2⟩ := hg'; exact he h2)

theorem rsigned17 {V : Nat} (h : V < 4294967296) (w : World) : Calls Tryz.prog 46 #[.int .u64 (V : Int)] w fun e w' => e = .returned (.int .i32 (sg V)) ∧ w = w' := by
  have h1 : wrap32 (IntKind.u32.wrap (V : Int)) = sg V := by
    rw [IntKind.wrap_u32]
    unfold sg wrap32
    split <;> omega
  rw [← h1]
  exact Wi.rsigned_any V w

/-- A row that stays where only this block, and new ones, turn. -/
theorem row_stay {w w' : World} {base e size n : Nat} {v : Value} {xs : List Value} {S : Nat → Prop} (h : w.ownsRow base e size v n xs) (hw : Ar.Turned S w w') (hs : ∀ k, base ≤ k → k < w.heap.size → ¬ S k) : w'.ownsRow base e size v n xs := by
  refine Ar.ownsRow_same h (fun k hk => ?_)
  obtain ⟨h1, h2⟩ := own_lt h hk
  exact hw.block k h2 (hs k h1 h2)

theorem pv_of2 {t : TypeId} {base n : Nat} {w : World} {v : Value} {ps : List (Int × Int)} (h : w.ownsRow base t 2 v n (Ar.pcs ps)) (hl : ps.length = n) (hn : ∀ p, p ∈ ps → Pn p) : PV w v ps := by
  subst hl
  exact pv_of h (fun p hp => ⟨(hn p hp).1, (hn p hp).2.1⟩)
theorem egv_of2 {t : TypeId} {base n : Nat} {w : World} {v : Value} {l : List Eg} (h : w.ownsRow base t 5 v n (ecs l)) (hl : l.length = n) (hn : ∀ x, x ∈ l → En x) : EgV w v l := by
  subst hl
  exact egv_of h hn
theorem pls_pn {k : Nat} {l : List UInt8} : ∀ p, p ∈ pls k l → Pn p := fun p hp => by
  unfold pls at hp
  obtain ⟨i, _, rfl⟩ := List.mem_map.1 hp
  exact plv_pn _
theorem eqs_qn {k : Nat} {l : List UInt8} : ∀ q, q ∈ eqs k l → Qn q := fun q hq => by
  unfold eqs at hq
  obtain ⟨i, _, rfl⟩ := List.mem_map.1 hq
  exact eqA1_qn _
theorem eqs_pn {k : Nat} {l : List UInt8} : ∀ p, p ∈ (eqs k l).map (·.1) → Pn p := fun p hp => by
  obtain ⟨q, hq, rfl⟩ := List.mem_map.1 hp
  exact (eqs_qn q hq).1
theorem eqs_en {k : Nat} {l : List UInt8} : ∀ x, x ∈ (eqs k l).map (·.2) → En x := fun x hx => by
  obtain ⟨q, hq, rfl⟩ := List.mem_map.1 hx
  exact (eqs_qn q hq).2.1

set_option maxRecDepth 100000 in
set_option maxHeartbeats 40000000 in
theorem rdecode_ok {w : World} {ad : Option Addr} {n cap : Nat} {b : List UInt8} (hb : Wi.Bytes w ad cap b) (hn : b.length = n) (hbl : b.length ≤ 1500) :
    Calls Tryz.prog 21 #[.slice ad n cap] w fun e w' => Below w.heap.size w w' ∧ ((∃ m vv ev lv, Is b m ∧ e = .returned (.tuple #[.agg #[.int .i64 m.n, vv, ev, lv], .bool true]) ∧ Mp w' vv ev lv m ∧ m.vs.length ≤ 1000 ∧ m.es.length ≤ 1000 ∧ m.l.length ≤ 1000) ∨ ((∀ m, ¬ Is b m) ∧ e = .returned (.tuple #[.agg #[.int .i64 0, .slice none 0 0, .slice none 0 0, .slice none 0 0], .bool false]))) := by
  have hn15 : n ≤ 1500 := by omega
  have b1 := balloc w (.cells #[.int .i64 0, .slice none 0 0, .slice none 0 0, .slice none 0 0] 25)
  have n1 := new_of w #[.int .i64 0, .slice none 0 0, .slice none 0 0, .slice none 0 0] 25
  have hnh := hid hn
  have hblh := hid hbl
  have hw : Hid (∀ y, Below w.heap.size w y → ∀ (k N : Nat) (l : List UInt8), (k + N ≤ n → Cu b k l) → k ≤ 100000 → ∀ (kk nn : Int), kk = (k : Int) → nn = (N : Int) → 1 ≤ N → N ≤ 8 → ∀ (z : Bool), (z = true ↔ k + N ≤ n) → ∀ (x : Nat), x = (if k + N ≤ n then tkv N l else 0) → Calls Tryz.prog 45 #[.slice ad n cap, .int .i64 kk, .int .i64 nn] y fun e w' => e = .returned (.tuple #[.int .u64 (x : Int), .bool z]) ∧ Below y.heap.size y w') :=
    hid (fun y hy k N l hc hk9 kk nn hk hN h1 h8 z hz x hx => word_any (hb.below hy) hn hbl hc hk9 hk hN h1 h8 z hz x hx)
  have c0 : Hid (Cu b 0 b) := ⟨by omega, rfl⟩
  have hwL : IntKind.u64.wrap (n : Int) = (n : Int) := by rw [IntKind.wrap_u64]; omega
  go_enter Tryz.func21, Tryz.ntmps21
  go_upto_region 1 with fail
  obtain ⟨w1, hw1⟩ : ∃ w1, w.alloc (.cells #[.int .i64 0, .slice none 0 0, .slice none 0 0, .slice none 0 0] 25) = w1 := ⟨_, rfl⟩
  rw [hw1] at b1 n1 ⊢
  obtain ⟨R, hR⟩ : ∃ R, w.heap.size = R := ⟨_, rfl⟩
  rw [hR] at n1 ⊢
  have hRh := hid hR
  have b1h := hid b1
  have n1h := hid n1
  have hRl : R < w1.heap.size := (Array.getElem?_eq_some_iff.1 n1).1
  clear hw1 hb hn hbl hR b1 n1
  -- the first two words
  obtain ⟨z0, hz0⟩ : ∃ z : Bool, z = true ↔ 0 + 4 ≤ n := ⟨decide (0 + 4 ≤ n), by simp⟩
  obtain ⟨x0, hx0⟩ : ∃ x, x = (if 0 + 4 ≤ n then tkv 4 b else 0) := ⟨_, rfl⟩
  have hq0 := hid (fun y hy => hw.out y hy 0 4 b (fun _ => c0.out) (by omega) 0 4 rfl rfl (by omega) (by omega) z0 hz0 x0 hx0)
  by_cases h8 : 8 ≤ n
  · obtain rfl : z0 = true := hz0.2 (by omega)
    have hx0' : Hid (x0 = tkv 4 b) := by rw [hx0, if_pos (by omega)]; exact hid rfl
    have c1 : Hid (Cu b 4 (tkl 4 b)) := c0.out.next 4 (by rw [hnh.out]; omega)
    have c2 : Hid (Cu b 8 (tkl 4 (tkl 4 b))) := c1.out.next 4 (by rw [hnh.out]; omega)
    obtain ⟨V, hV⟩ : ∃ V, tkv 4 (tkl 4 b) = V := ⟨_, rfl⟩
    have hq1 := hid (fun y hy => hw.out y hy 4 4 _ (fun _ => c1.out) (by omega) 4 4 rfl rfl (by omega) (by omega) true ⟨fun _ => by omega, fun _ => rfl⟩ V (by rw [if_pos (by omega), hV]))
    have hVlt : V < 4294967296 := by rw [← hV]; exact tkv_lt 4 _
    have hx0lt : x0 < 4294967296 := by rw [hx0'.out]; exact tkv_lt 4 _
    obtain ⟨l2, hl2⟩ : ∃ l2, tkl 4 (tkl 4 b) = l2 := ⟨_, rfl⟩
    replace hV := hid hV
    replace hl2 := hid hl2
    have hwV : wrap64 (V : Int) = (V : Int) := IntWalk.wrap64_in _ ⟨by omega, by omega⟩
    have hwN : wrap64 (x0 : Int) = (x0 : Int) := IntWalk.wrap64_in _ ⟨by omega, by omega⟩
    have hwV' : IntKind.i64.wrap (V : Int) = (V : Int) := by rw [IntKind.wrap_i64]; omega
    have hwN' : IntKind.i64.wrap (x0 : Int) = (x0 : Int) := by rw [IntKind.wrap_i64]; omega
    clear hz0 hx0
    go_wp2_with fail
    refine (hq0.out _ b1h.out).mono ?_
    rintro e w2 ⟨rfl, b2⟩
    have hbw2 := hid (b1h.out.trans (b2.mono b1h.out.size))
    have n2 := hid ((b2.block R hRl).trans n1h.out)
    have hRl2 : R < w2.heap.size := (Array.getElem?_eq_some_iff.1 n2.out).1
    clear hq0 b2 hRl
    go_wp2_with fail
    refine (hq1.out _ hbw2.out).mono ?_
    rintro e w3 ⟨rfl, b3⟩
    have hbw3 := hid (hbw2.out.trans (b3.mono hbw2.out.size))
    have n3 := hid ((b3.block R hRl2).trans n2.out)
    have hRl3 : R < w3.heap.size := (Array.getElem?_eq_some_iff.1 n3.out).1
    clear hq1 b3 hRl2 hbw2 n2 b1h n1h
    by_cases hVn : n < V
    · have t1 : decide ((V : Int) > (n : Int)) = true := decide_eq_true (by omega)
      have t2 : decide ((n : Int) < (V : Int)) = true := decide_eq_true (by omega)
      have t3 : decide (n < V) = true := decide_eq_true (by omega)
      have hno : Hid (∀ m, ¬ Is b m) := fun m hm => by
        have hd := Hd.of hm
        have h1 := hd.v5
        have h2 := hd.v
        have h3 := c2.out.len
        have h4 := hV.out
        have h5 := hnh.out
        omega
      have hfs := hid (four_store (w := w) n3.out hbw3.out (by have := hRh.out; omega))
      have x0 := cell_of n3.out (j := 0) rfl
      have x1 := cell_of n3.out (j := 1) rfl
      have x2 := cell_of n3.out (j := 2) rfl
      have x3 := cell_of n3.out (j := 3) rfl
      have y0 := frozen_of n3.out (k := 0)
      have y1 := frozen_of n3.out (k := 1)
      have y2 := frozen_of n3.out (k := 2)
      have y3 := frozen_of n3.out (k := 3)
      clear hVn
      go_wp2_with fail
      refine bodyPost_ret (results_cell2 rfl _ _ R 25 _ (0, 0) _ rfl (hfs.out _ _ _ _).1 Tryz.underlying25 rfl (by kernel_rfl)) rfl ?_
      exact ⟨(hfs.out _ _ _ _).2.1, .inr ⟨hno.out, rfl⟩⟩
    · have t1 : decide ((V : Int) > (n : Int)) = false := decide_eq_false (by omega)
      have t2 : decide ((n : Int) < (V : Int)) = false := decide_eq_false (by omega)
      have t3 : decide (n < V) = false := decide_eq_false (by omega)
      have b4 := balloc w3 (.cells #[.int .i64 (x0 : Int), .slice none 0 0, .slice none 0 0, .slice none 0 0] 25)
      have n4 := new_of w3 #[.int .i64 (x0 : Int), .slice none 0 0, .slice none 0 0, .slice none 0 0] 25
      go_upto_region 6 with fail
      obtain ⟨w5, hw5⟩ : ∃ w5, w3.alloc (.cells #[.int .i64 (x0 : Int), .slice none 0 0, .slice none 0 0, .slice none 0 0] 25) = w5 := ⟨_, rfl⟩
      rw [hw5] at b4 n4 ⊢
      obtain ⟨mb, hmb⟩ : ∃ mb, w3.heap.size = mb := ⟨_, rfl⟩
      rw [hmb] at n4 hRl3 ⊢
      have hdd : Hid (Dd w w5 w5 R mb x0 (.slice none 0 0) (.slice none 0 0) (.slice none 0 0)) :=
        ⟨(b4.block R (by omega)).trans n3.out, n4, Ar.Turned.refl _ _, hbw3.out.trans (b4.mono hbw3.out.size), by have := hRh.out; have := (Array.getElem?_eq_some_iff.1 n4).1; omega⟩
      clear b4 n4 hw5 hmb hbw3 n3 hRl3 t1 t2 t3
      have hst0 : Hid (∃ vv, Dd w w5 w5 R mb x0 vv (.slice none 0 0) (.slice none 0 0) ∧ w5.ownsRow w5.heap.size 58 2 vv 0 (Ar.pcs (pls 0 l2))) := ⟨_, hdd.out, World.ownsRow_nil _ _ _ _⟩
      have hcu0 : Hid (Cu b 8 (plN 0 l2) ∧ plZ 0 l2 false = false) := ⟨by have := c2.out; rw [hl2.out] at this; exact this, rfl⟩
      have hnum : Hid (8 ≤ n ∧ n ≤ 1500 ∧ V ≤ n) := ⟨h8, hn15, by omega⟩
      clear hdd h8 hn15 hVn hx0lt hVlt hwL
      go_wp2_with fail
      go_loopw [9, 10, 11, 12, 13, 14] (fun s9 s10 _ _ _ _ wr => ∃ i p : Nat, i ≤ V ∧ Hid (p = 8 + 5 * i) ∧ s9 = .int .i64 (p : Int) ∧ s10 = .int .i64 (i : Int) ∧ Hid (Cu b p (plN i l2) ∧ plZ i l2 false = false) ∧ Hid (∃ vv, Dd w w5 wr R mb x0 vv (.slice none 0 0) (.slice none 0 0) ∧ wr.ownsRow w5.heap.size 58 2 vv i (Ar.pcs (pls i l2)))) (fun _ s10 _ _ _ _ _ => V - (intOf s10).toNat)
      case atStart => exact ⟨0, 8, by omega, hid rfl, by go_num, by go_num, hcu0, hst0⟩
      case round =>
        obtain ⟨i, p, hi, hp, rfl, rfl, hcu, hst⟩ := hrel
        clear hst0 hcu0 hwN hwN' c1
        have hpn : p ≤ n := by have := hcu.out.1.1; have := hnh.out; omega
        obtain ⟨h8, hn15, hVn⟩ := hnum.out
        obtain ⟨vv, hst⟩ := hst.out
        obtain ⟨va, vc, rfl, _, _⟩ := own_any hst.2
        have hdd := hid hst.1
        have hown := hid hst.2
        have hbr := hid hst.1.belw
        clear hst
        rcases Nat.lt_or_ge i V with hlt | hge
        · have j1 : (0 : Int) ≤ (i : Int) := by omega
          have j2 : (i : Int) < (V : Int) := by omega
          by_cases h5 : p + 5 ≤ n
          · as_aux_lemma =>
              have hp5 : Hid (p + 5 = 8 + 5 * (i + 1)) := by have := hp.out; clear hwV hwV'; show _ = _; omega
              have hlt' := hid hlt
              obtain ⟨hcu5, hz5⟩ := hcu.out.1.place (by rw [hnh.out]; exact h5)
              obtain ⟨A, hA⟩ : ∃ A, tkv 4 (plN i l2) = A := ⟨_, rfl⟩
              obtain ⟨S, hS⟩ : ∃ S, tkv 1 (tkl 4 (plN i l2)) = S := ⟨_, rfl⟩
              have hq0 := hid (fun y hy => hw.out y hy p 4 (plN i l2) (fun _ => hcu.out.1) (by omega) p 4 rfl rfl (by omega) (by omega) true ⟨fun _ => by omega, fun _ => rfl⟩ A (by rw [if_pos (by omega), hA]))
              have hq1 := hid (fun y hy => hw.out y hy (p + 4) 1 (tkl 4 (plN i l2)) (fun _ => hcu.out.1.next 4 (by rw [hnh.out]; omega)) (by omega) ((p : Int) + 4) 1 rfl rfl (by omega) (by omega) true ⟨fun _ => by omega, fun _ => rfl⟩ S (by rw [if_pos (by omega), hS]))
              have hA1 : A < 4294967296 := by rw [← hA]; exact tkv_lt 4 _
              have hS1 : S < 256 := by rw [← hS]; exact tkv_lt 1 _
              have hcap : Hid (i + 1 ≤ 1500) := by show _ ≤ _; clear hwV hwV'; omega
              have hpA : Hid (plA i l2 = ((A : Int), (S : Int))) := by show plv _ = _; unfold plv; rw [hA, hS]
              have hcu' : Hid (Cu b (p + 5) (plN (i + 1) l2) ∧ plZ (i + 1) l2 false = false) := ⟨hcu5, by show plw _ _ = false; rw [hz5]; exact hcu.out.2⟩
              have p4 := wp17 hpn hn15 4 (by decide) (by decide)
              have wA := (wu17 hA1).2
              have wS := (wu17 (Nat.lt_trans hS1 (by decide))).1
              have hbw := hid (fun y (hy : Below wr.heap.size wr y) => hbr.out.trans (hy.mono hbr.out.size))
              have p5 := wp17 hpn hn15 5 (by decide) (by decide)
              have i1 := wp17 (Nat.le_trans hi hVn) hn15 1 (by decide) (by decide)
              clear hcu hcu5 hz5 hA hS hpn h8 hn15 hVn h5 hA1 hS1 hlt
              go_wp2_with fail
              refine (hq0.out _ hbr.out).mono ?_
              rintro e w2 ⟨rfl, b2⟩
              replace b2 := hid b2
              go_wp2_with fail
              refine (hq1.out _ (hbw.out _ b2.out)).mono ?_
              rintro e w9 ⟨rfl, b9⟩
              have b29 := b2.out.trans (b9.mono b2.out.size)
              have hd9 := hid (hdd.out.more b29)
              have ho9 := ownsRow_below hown.out b29
              have hs5 := hd9.out.tur.size
              have x1 := cell_of hd9.out.m (j := 1) rfl
              clear hq0 hq1 b2 b9 b29 hdd hown hbw hbr
              obtain ⟨i0, hif, hz0, hz1, hz2⟩ := info_parts infoRPlace
              go_upto_region 14 with fail
              go_wp2_with (at_builtin; refine wpList_append_own _ rfl (.tmp 81) (.tmp 87) 22 rfl w5.heap.size 58 i0 _ 2 16 Tryz.underlying22 hif hz0 hz1 hz2 rfl (by decide) _ _ _ rfl (ho9.alloc _) ⟨w9.heap.size, 0, none⟩ 1 1 (Ar.pcs [((A : Int), (S : Int))]) rfl rfl (rpcs_new w9 A S) (Ar.pcs_one _) (cap17 hcap.out).1 (cap17 hcap.out).2.1 (alloc_le hs5 _) ?_; intro v' w' ho' hg' _; refine Hid.out ?_)
              obtain ⟨va', vc', rfl, _, _⟩ := own_any ho'
              have hd' := hd9.out.keep (((Ar.Turned.refl (fun k => w5.heap.size ≤ k) w9).alloc _).trans (Ar.Turned.ofGrown hg' (fun k hk => (own_lt ho9 hk).1))) (fun k hk hk2 => absurd hk (Nat.not_lt.2 hk2))
              have x1' := cell_of hd'.m (j := 1) rfl
              have y1' := frozen_of hd'.m (k := 1)
              have hnew : Hid (∃ vv, Dd w w5 (w'.setCell ⟨mb, 1, none⟩ (.slice va' (i + 1) vc')) R mb x0 vv (.slice none 0 0) (.slice none 0 0) ∧ (w'.setCell ⟨mb, 1, none⟩ (.slice va' (i + 1) vc')).ownsRow w5.heap.size 58 2 vv (i + 1) (Ar.pcs (pls (i + 1) l2))) := by
                refine ⟨_, hd'.set1 _, ?_⟩
                rw [pls_succ, hpA.out, Ar.pcs_append]
                exact row_stay ho' ((Ar.Turned.refl (fun k => k = mb) w').setCell (p := ⟨mb, 1, none⟩) rfl _) (fun k hk _ e => by have := hd'.lt.2.2; subst e; exact absurd this (Nat.not_lt.2 hk))
              clear ho' hg' hd9 ho9 x1 hif hz0 hz1 hz2 hd'
              refine hid ?_
              go_upto_region 15 with fail
              obtain ⟨wz, hwz⟩ : ∃ wz, w'.setCell ⟨mb, 1, none⟩ (.slice va' (i + 1) vc') = wz := ⟨_, rfl⟩
              rw [hwz] at hnew ⊢
              clear hwz x1' y1'
              go_wp2_with fail
              go_roundw
              case rel => exact ⟨i + 1, p + 5, hlt'.out, hp5, gn17 (by first | rfl | exact p5), gn17 (by first | rfl | exact i1), hcu', hnew⟩
              case measure => exact ms17 (by first | rfl | exact i1) hlt'.out
          · as_aux_lemma =>
              obtain ⟨z0, hz0⟩ : ∃ z : Bool, z = true ↔ p + 4 ≤ n := ⟨decide (p + 4 ≤ n), by simp⟩
              obtain ⟨a0, ha0⟩ : ∃ x, x = (if p + 4 ≤ n then tkv 4 (plN i l2) else 0) := ⟨_, rfl⟩
              have hq0 := hid (fun y hy => hw.out y hy p 4 (plN i l2) (fun _ => hcu.out.1) (by omega) p 4 rfl rfl (by omega) (by omega) z0 hz0 a0 ha0)
              have hq1 := hid (fun y hy => hw.out y hy (p + 4) 1 [] (fun q => by omega) (by omega) ((p : Int) + 4) 1 rfl rfl (by omega) (by omega) false ⟨fun q => (by cases q), fun q => by omega⟩ 0 (by rw [if_neg (by omega)]))
              have hno : Hid (∀ m, ¬ Is b m) := fun m hm => by
                have hd := Hd.of hm
                have h1 := hd.v5
                have h2 := hd.v
                have h3 := c2.out.len
                have h4 := hV.out
                have h5 := hnh.out
                have h6 := hp.out
                clear hwV hwV'
                omega
              have p4 := wp17 hpn hn15 4 (by decide) (by decide)
              have hbw := hid (fun y (hy : Below wr.heap.size wr y) => hbr.out.trans (hy.mono hbr.out.size))
              clear hz0 ha0 h5 hpn h8 hn15 hVn hlt
              cases z0
              all_goals
                go_wp2_with fail
                refine (hq0.out _ hbr.out).mono ?_
                rintro e w2 ⟨rfl, b2⟩
                replace b2 := hid b2
                go_wp2_with fail
                refine (hq1.out _ (hbw.out _ b2.out)).mono ?_
                rintro e w9 ⟨rfl, b9⟩
                have hd9 := hid (hdd.out.more (b2.out.trans (b9.mono b2.out.size)))
                obtain ⟨⟨x0, x1, x2, x3⟩, hfz⟩ := hd9.out.fin
                have y0 := hfz 0
                have y1 := hfz 1
                have y2 := hfz 2
                have y3 := hfz 3
                clear b9 b2 hfz hq0 hq1
                go_wp2_with fail
                refine bodyPost_ret (results_cell2 rfl _ _ R 25 _ (0, 0) _ rfl (four_store hd9.out.r hd9.out.belw hd9.out.lt.1 (.int .i64 0) (.slice none 0 0) (.slice none 0 0) (.slice none 0 0)).1 Tryz.underlying25 rfl (by kernel_rfl)) rfl ?_
                exact ⟨(four_store hd9.out.r hd9.out.belw hd9.out.lt.1 (.int .i64 0) (.slice none 0 0) (.slice none 0 0) (.slice none 0 0)).2.1, .inr ⟨hno.out, rfl⟩⟩
        · have hiV : i = V := by clear hwV hwV'; omega
          subst hiV
          obtain ⟨l3, hl3⟩ : ∃ l3, plN i l2 = l3 := ⟨_, rfl⟩
          have hcu3 : Hid (Cu b p l3 ∧ plZ i l2 false = false) := by rw [← hl3]; exact hcu
          have hbw := hid (fun y (hy : Below wr.heap.size wr y) => hbr.out.trans (hy.mono hbr.out.size))
          have hkeyd : Hid (∀ m, Is b m → dV b = i ∧ dl3 b = l3) := fun m hm => by
            have h1 := (Hd.of hm).v
            rw [hV.out] at h1
            exact ⟨h1, by unfold dl3; rw [h1, hl2.out, hl3]⟩
          replace hl3 := hid hl3
          clear hcu hge hi
          by_cases h4 : p + 4 ≤ n
          · as_aux_lemma =>
              obtain ⟨E, hE⟩ : ∃ E, tkv 4 l3 = E := ⟨_, rfl⟩
              obtain ⟨l4, hl4⟩ : ∃ l4, tkl 4 l3 = l4 := ⟨_, rfl⟩
              have hcu4 : Hid (Cu b (p + 4) l4) := by rw [← hl4]; exact hcu3.out.1.next 4 (by rw [hnh.out]; exact h4)
              have hq0 := hid (fun y hy => hw.out y hy p 4 l3 (fun _ => hcu3.out.1) (by clear hwV hwV'; omega) p 4 rfl rfl (by decide) (by decide) true ⟨fun _ => h4, fun _ => rfl⟩ E (by rw [if_pos h4, hE]))
              have hElt : E < 4294967296 := by rw [← hE]; exact tkv_lt 4 _
              replace hE := hid hE
              replace hl4 := hid hl4
              have p4 := wp17 hpn hn15 4 (by decide) (by decide)
              have hwE := (wu17 hElt).1
              have hwE' : IntKind.i64.wrap (E : Int) = (E : Int) := by rw [IntWalk.i64_left]; exact hwE
              have hwL := wul17 hn15
              have h4h := hid h4
              clear h4 hpn h8 hVn hElt
              go_wp2_with fail
              refine (hq0.out _ hbr.out).mono ?_
              rintro e w7 ⟨rfl, b7⟩
              clear hwV hwV'
              have hd9 := hid (hdd.out.more b7)
              have ho9 := hid (ownsRow_below hown.out b7)
              clear hq0 b7 hdd hown hbw hbr
              by_cases hEn : n < E
              · have t1 : decide ((E : Int) > (n : Int)) = true := decide_eq_true (by clear p4 hwE hwE' hwL; omega)
                have t2 : decide ((n : Int) < (E : Int)) = true := decide_eq_true (by clear p4 hwE hwE' hwL; omega)
                have t3 : decide (n < E) = true := decide_eq_true hEn
                have hno : Hid (∀ m, ¬ Is b m) := fun m hm => by
                  obtain ⟨_, h3⟩ := hkeyd.out m hm
                  have hd := Hd.of hm
                  have h1 := hd.e5
                  have h2 := hd.e
                  rw [h3, hE.out] at h2
                  rw [h2, h3, hl4.out] at h1
                  have h5 := hcu4.out.len
                  have h6 := hnh.out
                  clear p4 hwE hwE' hwL
                  omega
                clear hEn
                obtain ⟨⟨x0, x1, x2, x3⟩, hfz⟩ := hd9.out.fin
                have y0 := hfz 0
                have y1 := hfz 1
                have y2 := hfz 2
                have y3 := hfz 3
                clear hfz
                go_wp2_with fail
                refine bodyPost_ret (results_cell2 rfl _ _ R 25 _ (0, 0) _ rfl (four_store hd9.out.r hd9.out.belw hd9.out.lt.1 (.int .i64 0) (.slice none 0 0) (.slice none 0 0) (.slice none 0 0)).1 Tryz.underlying25 rfl (by kernel_rfl)) rfl ?_
                exact ⟨(four_store hd9.out.r hd9.out.belw hd9.out.lt.1 (.int .i64 0) (.slice none 0 0) (.slice none 0 0) (.slice none 0 0)).2.1, .inr ⟨hno.out, rfl⟩⟩
              · have t1 : decide ((E : Int) > (n : Int)) = false := decide_eq_false (by clear p4 hwE hwE' hwL; omega)
                have t2 : decide ((n : Int) < (E : Int)) = false := decide_eq_false (by clear p4 hwE hwE' hwL; omega)
                have t3 : decide (n < E) = false := decide_eq_false hEn
                have hEn' : Hid (E ≤ n) := by show E ≤ n; exact Nat.le_of_not_lt hEn
                have hst0 : Hid (∃ ev lv, Dd w w7 w7 R mb x0 (.slice va i vc) ev lv ∧ w7.ownsRow w7.heap.size 58 2 ev 0 (Ar.pcs ((eqs 0 l4).map (·.1))) ∧ w7.ownsRow w7.heap.size 61 5 lv 0 (ecs ((eqs 0 l4).map (·.2)))) :=
                  ⟨_, _, ⟨hd9.out.r, hd9.out.m, Ar.Turned.refl _ _, hd9.out.belw, hd9.out.lt.1, hd9.out.lt.2.1, Nat.lt_of_lt_of_le hd9.out.lt.2.2 hd9.out.tur.size⟩, World.ownsRow_nil _ _ _ _, World.ownsRow_nil _ _ _ _⟩
                have hmb5 := hid hd9.out.lt.2.2
                have hq4 : Hid (12 + 5 * i + 5 * 0 ≤ p + 4) := by have := hp.out; show _ ≤ _; clear p4 hwE hwE' hwL; omega
                have hcu40 : Hid (Cu b (p + 4) (eqN 0 l4) ∧ eqZ 0 l4 false = false) := ⟨hcu4.out, rfl⟩
                clear hEn hd9
                go_wp2_with fail
                go_loopw [9, 15, 16, 17, 18, 19, 20, 21, 22, 23, 24] (fun s9 s15 _ _ _ _ _ _ _ _ _ wr => ∃ j q : Nat, j ≤ E ∧ Hid (12 + 5 * i + 5 * j ≤ q) ∧ s9 = .int .i64 (q : Int) ∧ s15 = .int .i64 (j : Int) ∧ Hid (Cu b q (eqN j l4) ∧ eqZ j l4 false = false) ∧ Hid (∃ ev lv, Dd w w7 wr R mb x0 (.slice va i vc) ev lv ∧ wr.ownsRow w7.heap.size 58 2 ev j (Ar.pcs ((eqs j l4).map (·.1))) ∧ wr.ownsRow w7.heap.size 61 5 lv j (ecs ((eqs j l4).map (·.2))))) (fun _ s15 _ _ _ _ _ _ _ _ _ _ => E - (intOf s15).toNat)
                case atStart => exact ⟨0, p + 4, by clear p4 hwE hwE' hwL; omega, hq4, gn17 (by first | rfl | exact p4), gn17 rfl, hcu40, hst0⟩
                case round =>
                  obtain ⟨j, q, hj, hq, rfl, rfl, hcu, hst⟩ := hrel
                  clear hst0 hcu40 hq4 p4 t1 t2 t3
                  have hqn : q ≤ n := by have h1 := hcu.out.1.1; have h2 := hnh.out; clear hwE hwE' hwL; omega
                  obtain ⟨ev, lv, hst⟩ := hst.out
                  obtain ⟨ea, ec, rfl, _, _⟩ := own_any hst.2.1
                  obtain ⟨la, lc, rfl, _, _⟩ := own_any hst.2.2
                  have hdd := hid hst.1
                  have hoe := hid hst.2.1
                  have hol := hid hst.2.2
                  have hbr := hid hst.1.belw
                  have hbw := hid (fun y (hy : Below wr.heap.size wr y) => hbr.out.trans (hy.mono hbr.out.size))
                  clear hst
                  rcases Nat.lt_or_ge j E with hlt | hge
                  · have j1 : (0 : Int) ≤ (j : Int) := Int.natCast_nonneg _
                    have j2 : (j : Int) < (E : Int) := Int.ofNat_lt.2 hlt
                    have hbad : Hid (∀ m, Is b m → eqZ1 (eqN j l4) (eqZ j l4 false) = false) := fun m hm => by
                      obtain ⟨_, h3⟩ := hkeyd.out m hm
                      have hd := Hd.of hm
                      have h1 := hd.z
                      have h2 := hd.e
                      rw [h3, hE.out] at h2
                      rw [h2, h3, hl4.out] at h1
                      exact eqZ_mono (j := j + 1) E hlt h1
                    have hlt' := hid hlt
                    by_cases h5 : q + 5 ≤ n
                    · as_aux_lemma =>
                        obtain ⟨hcu5, hz5⟩ := hcu.out.1.place (by rw [hnh.out]; exact h5)
                        obtain ⟨A, hA⟩ : ∃ A, tkv 4 (eqN j l4) = A := ⟨_, rfl⟩
                        obtain ⟨S, hS⟩ : ∃ S, tkv 1 (tkl 4 (eqN j l4)) = S := ⟨_, rfl⟩
                        have hq0 := hid (fun y hy => hw.out y hy q 4 (eqN j l4) (fun _ => hcu.out.1) (by clear hwE hwE' hwL; omega) q 4 rfl rfl (by decide) (by decide) true ⟨fun _ => by clear hwE hwE' hwL; omega, fun _ => rfl⟩ A (by rw [if_pos (by clear hwE hwE' hwL; omega), hA]))
                        have hq1 := hid (fun y hy => hw.out y hy (q + 4) 1 (tkl 4 (eqN j l4)) (fun _ => hcu.out.1.next 4 (by rw [hnh.out]; clear hwE hwE' hwL; omega)) (by clear hwE hwE' hwL; omega) ((q : Int) + 4) 1 rfl rfl (by decide) (by decide) true ⟨fun _ => by clear hwE hwE' hwL; omega, fun _ => rfl⟩ S (by rw [if_pos (by clear hwE hwE' hwL; omega), hS]))
                        have hA1 : A < 4294967296 := by rw [← hA]; exact tkv_lt 4 _
                        have hS1 : S < 256 := by rw [← hS]; exact tkv_lt 1 _
                        have hpA : Hid (plv (eqN j l4) = ((A : Int), (S : Int))) := by show plv _ = _; unfold plv; rw [hA, hS]
                        have hcap : Hid (j + 1 ≤ 1500) := by have := hEn'.out; show _ ≤ _; clear hwE hwE' hwL; omega
                        have hcup := hid hcu5
                        have hzp : Hid (∀ z, plw (eqN j l4) z = z) := hz5
                        have hz0j := hid hcu.out.2
                        have h5h := hid h5
                        have hq5 : Hid (q + 5 ≤ n ∧ 12 + 5 * i + 5 * (j + 1) ≤ q + 5) := by have h1 := hq.out; exact ⟨h5, by clear hwE hwE' hwL; omega⟩
                        have p4 := wp17 hqn hn15 4 (by decide) (by decide)
                        have p5 := wp17 hqn hn15 5 (by decide) (by decide)
                        have i1 := wp17 (Nat.le_trans hj hEn'.out) hn15 1 (by decide) (by decide)
                        have wA := (wu17 hA1).2
                        have wS := (wu17 (Nat.lt_trans hS1 (by decide))).1
                        clear hcu hcu5 hz5 hA hS h5 hA1 hS1 hlt hj hqn
                        go_wp2_with fail
                        refine (hq0.out _ hbr.out).mono ?_
                        rintro e w2 ⟨rfl, b2⟩
                        replace b2 := hid b2
                        go_wp2_with fail
                        refine (hq1.out _ (hbw.out _ b2.out)).mono ?_
                        rintro e w9 ⟨rfl, b9⟩
                        have b29 := b2.out.trans (b9.mono b2.out.size)
                        have hd9 := hid (hdd.out.more b29)
                        have ho9 := ownsRow_below hoe.out b29
                        have hl9 := hid (ownsRow_below hol.out b29)
                        have hs5 := hd9.out.tur.size
                        have x2 := cell_of hd9.out.m (j := 2) rfl
                        clear hq0 hq1 b2 b9 b29 hdd hoe hol hbw hbr
                        obtain ⟨i0, hif, hz0, hz1, hz2⟩ := info_parts infoRPlace
                        go_upto_region 27 with fail
                        go_wp2_with (at_builtin; refine wpList_append_own _ rfl (.tmp 137) (.tmp 143) 22 rfl w7.heap.size 58 i0 _ 2 16 Tryz.underlying22 hif hz0 hz1 hz2 rfl (by decide) _ _ _ rfl (ho9.alloc _) ⟨w9.heap.size, 0, none⟩ 1 1 (Ar.pcs [((A : Int), (S : Int))]) rfl rfl (rpcs_new w9 A S) (Ar.pcs_one _) (cap17 hcap.out).1 (cap17 hcap.out).2.1 (alloc_le hs5 _) ?_; intro v' w' ho' hg' _; refine Hid.out ?_)
                        obtain ⟨ea', ec', rfl, _, _⟩ := own_any ho'
                        have hd' := hd9.out.keep (((Ar.Turned.refl (fun k => w7.heap.size ≤ k) w9).alloc _).trans (Ar.Turned.ofGrown hg' (fun k hk => (own_lt ho9 hk).1))) (fun k hk hk2 => absurd hk (Nat.not_lt.2 hk2))
                        have hl' := World.ownsRow.kept (hl9.out.alloc (.cells #[.int .u32 (A : Int), .int .i64 (S : Int)] 58)) hg' (row_apart hl9.out ho9 (by decide))
                        have x2' := cell_of hd'.m (j := 2) rfl
                        have y2' := frozen_of hd'.m (k := 2)
                        have hmbk : ∀ k, w7.heap.size ≤ k → k < w'.heap.size → ¬ k = mb := fun k hk _ e => by have := hd'.lt.2.2; subst e; exact absurd this (Nat.not_lt.2 hk)
                        have hT := (Ar.Turned.refl (fun k => k = mb) w').setCell (p := ⟨mb, 2, none⟩) rfl (.slice ea' (j + 1) ec')
                        have hnd : Hid (Dd w w7 (w'.setCell ⟨mb, 2, none⟩ (.slice ea' (j + 1) ec')) R mb x0 (.slice va i vc) (.slice ea' (j + 1) ec') (.slice la j lc) ∧ (w'.setCell ⟨mb, 2, none⟩ (.slice ea' (j + 1) ec')).ownsRow w7.heap.size 58 2 (.slice ea' (j + 1) ec') (j + 1) (Ar.pcs ((eqs (j + 1) l4).map (·.1))) ∧ (w'.setCell ⟨mb, 2, none⟩ (.slice ea' (j + 1) ec')).ownsRow w7.heap.size 61 5 (.slice la j lc) j (ecs ((eqs j l4).map (·.2)))) := by
                          refine ⟨hd'.set2 _, ?_, row_stay hl' hT hmbk⟩
                          have e1 : (eqs (j + 1) l4).map (·.1) = (eqs j l4).map (·.1) ++ [((A : Int), (S : Int))] := by
                            rw [eqs_succ, List.map_append]
                            show _ ++ [plv (eqN j l4)] = _
                            rw [hpA.out]
                          rw [e1, Ar.pcs_append]
                          exact row_stay ho' hT hmbk
                        clear ho' hg' hd9 ho9 hl9 x2 hif hz0 hz1 hz2 hd' hl' hmbk hT
                        refine hid ?_
                        go_upto_region 28 with fail
                        obtain ⟨wz, hwz⟩ : ∃ wz, w'.setCell ⟨mb, 2, none⟩ (.slice ea' (j + 1) ec') = wz := ⟨_, rfl⟩
                        rw [hwz] at hnd ⊢
                        clear hwz x2' y2'
                        have b10 := balloc wz (.cells #[.int .u32 0, .int .u32 0, .int .u32 0, .int .u32 0, .int .i32 0] 61)
                        have n10 := new_of wz #[.int .u32 0, .int .u32 0, .int .u32 0, .int .u32 0, .int .i32 0] 61
                        go_upto_region 30 with fail
                        obtain ⟨w10, hw10⟩ : ∃ w10, wz.alloc (.cells #[.int .u32 0, .int .u32 0, .int .u32 0, .int .u32 0, .int .i32 0] 61) = w10 := ⟨_, rfl⟩
                        rw [hw10] at b10 n10 ⊢
                        obtain ⟨B, hB⟩ : ∃ B, wz.heap.size = B := ⟨_, rfl⟩
                        have hBs : w7.heap.size ≤ wz.heap.size := hnd.out.1.tur.size
                        rw [hB] at n10 hBs ⊢
                        have hn10 := hid n10
                        have hnd10 : Hid (Dd w w7 w10 R mb x0 (.slice va i vc) (.slice ea' (j + 1) ec') (.slice la j lc) ∧ w10.ownsRow w7.heap.size 58 2 (.slice ea' (j + 1) ec') (j + 1) (Ar.pcs ((eqs (j + 1) l4).map (·.1))) ∧ w10.ownsRow w7.heap.size 61 5 (.slice la j lc) j (ecs ((eqs j l4).map (·.2)))) := ⟨hnd.out.1.more b10, ownsRow_below hnd.out.2.1 b10, ownsRow_below hnd.out.2.2 b10⟩
                        have hrB : Hid (∀ k, (Value.slice ea' (j + 1) ec').ownBlock = some k ∨ (Value.slice la j lc).ownBlock = some k → k < B) := fun k hk => by
                          rcases hk with hk | hk
                          · have := (own_lt hnd.out.2.1 hk).2; rw [hB] at this; exact this
                          · have := (own_lt hnd.out.2.2 hk).2; rw [hB] at this; exact this
                        have hBlt : B < w10.heap.size := (Array.getElem?_eq_some_iff.1 n10).1
                        have hBsh := hid hBs
                        have hBlth := hid hBlt
                        clear hw10 b10 n10 hnd hB hBs hBlt
                        by_cases hS1 : S = 1
                        · as_aux_lemma =>
                            have t1 : ((S : Int) == 1) = true := by rw [hS1]; rfl
                            have hlive : Hid ((plv (eqN j l4)).2 = 1) := by rw [hpA.out]; show ((S : Nat) : Int) = 1; rw [hS1]; rfl
                            obtain ⟨lp, hlp⟩ : ∃ lp, pll (eqN j l4) = lp := ⟨_, rfl⟩
                            have hcupl : Hid (Cu b (q + 5) lp) := by rw [← hlp]; exact hcup
                            have hkfail : Hid (∀ m, Is b m → ∀ k, k < 5 → 4 ≤ (tkn k lp).length) := fun m hm k hk => by
                              rw [← hlp]
                              exact (eq_len (hbad.out m hm)).2 hlive.out k hk
                            replace hlp := hid hlp
                            have b11 := balloc w10 (.cells #[.int .u32 0, .int .u32 0, .int .u32 0, .int .u32 0, .int .u32 0] 100)
                            have n11 := new_of w10 #[.int .u32 0, .int .u32 0, .int .u32 0, .int .u32 0, .int .u32 0] 100
                            clear hS1
                            go_upto_region 32 with fail
                            obtain ⟨w11, hw11⟩ : ∃ w11, w10.alloc (.cells #[.int .u32 0, .int .u32 0, .int .u32 0, .int .u32 0, .int .u32 0] 100) = w11 := ⟨_, rfl⟩
                            rw [hw11] at b11 n11 ⊢
                            obtain ⟨C, hC⟩ : ∃ C, w10.heap.size = C := ⟨_, rfl⟩
                            have hBC : B < C := by rw [← hC]; exact hBlth.out
                            have hCw : C < w11.heap.size := by rw [← hC]; exact (Array.getElem?_eq_some_iff.1 n11).1
                            rw [hC] at n11 ⊢
                            have hB11 := hid ((b11.block B (by rw [hC]; exact hBC)).trans hn10.out)
                            have hnd11 : Hid (Dd w w7 w11 R mb x0 (.slice va i vc) (.slice ea' (j + 1) ec') (.slice la j lc) ∧ w11.ownsRow w7.heap.size 58 2 (.slice ea' (j + 1) ec') (j + 1) (Ar.pcs ((eqs (j + 1) l4).map (·.1))) ∧ w11.ownsRow w7.heap.size 61 5 (.slice la j lc) j (ecs ((eqs j l4).map (·.2)))) := ⟨hnd10.out.1.more b11, ownsRow_below hnd10.out.2.1 b11, ownsRow_below hnd10.out.2.2 b11⟩
                            have hst50 : Hid (w11.heap[C]? = some (Obj.cells (ar5 0 lp) 100 (0, 0)) ∧ Ar.Turned (fun x => x = C) w11 w11) := ⟨n11, Ar.Turned.refl _ _⟩
                            have hcu50 : Hid (Cu b (q + 5) (tkn 0 lp) ∧ tkz 0 lp false = false) := ⟨hcupl.out, rfl⟩
                            have hBCh : Hid (B < C ∧ C < w11.heap.size) := ⟨hBC, hCw⟩
                            have hwC : Hid (w.heap.size ≤ C) := Nat.le_trans hnd11.out.1.bel.size (Nat.le_trans hBsh.out (Nat.le_of_lt hBC))
                            have hbw11 := hid (fun y (hy : Ar.Turned (fun x => x = C) w11 y) => hnd11.out.1.belw.trans (hy.below (fun x hx => by subst hx; exact hwC.out) hnd11.out.1.belw.size))
                            have hBx : Hid (∀ k, k < B → ¬ k = C) := fun k hk e => by subst e; exact absurd hk (Nat.not_lt.2 (Nat.le_of_lt hBCh.out.1))
                            clear b11 n11 hw11 hC hBC hCw hnd10 hn10 hBlth p4
                            go_wp2_with fail
                            simp only [p5]
                            go_loopw [9, 22, 23, 24] (fun s9 s22 _ _ wy => ∃ k r : Nat, k ≤ 5 ∧ Hid (r = q + 5 + 4 * k) ∧ s9 = .int .i64 (r : Int) ∧ s22 = .int .i64 (k : Int) ∧ Hid (Cu b r (tkn k lp) ∧ tkz k lp false = false) ∧ Hid (wy.heap[C]? = some (Obj.cells (ar5 k lp) 100 (0, 0)) ∧ Ar.Turned (fun x => x = C) w11 wy)) (fun _ s22 _ _ _ => 5 - (intOf s22).toNat)
                            case atStart => have p5' := p5; clear p5 i1 wA wS hwE hwE' hwL; exact ⟨0, q + 5, by decide, (by show q + 5 = q + 5 + 4 * 0; rfl), gn17 (by first | rfl | exact p5'), gn17 rfl, hcu50, hst50⟩
                            case round =>
                              obtain ⟨k, r, hk, hr, rfl, rfl, hcu, hst⟩ := hrel
                              clear hst50 hcu50 t1
                              have hrn : r ≤ n := by have h1 := hcu.out.1.1; have h2 := hnh.out; clear p5 i1 wA wS hwE hwE' hwL; omega
                              rcases Nat.lt_or_ge k 5 with hk5 | hk5
                              · have k1 : (0 : Int) ≤ (k : Int) := Int.natCast_nonneg _
                                have k2 : (k : Int) < 5 := Int.ofNat_lt.2 hk5
                                by_cases h4 : r + 4 ≤ n
                                · as_aux_lemma =>
                                    obtain ⟨X, hX⟩ : ∃ X, tkv 4 (tkn k lp) = X := ⟨_, rfl⟩
                                    have hq0 := hid (fun y hy => hw.out y hy r 4 (tkn k lp) (fun _ => hcu.out.1) (by clear p5 i1 wA wS hwE hwE' hwL; omega) r 4 rfl rfl (by decide) (by decide) true ⟨fun _ => h4, fun _ => rfl⟩ X (by rw [if_pos h4, hX]))
                                    have hX1 : X < 4294967296 := by rw [← hX]; exact tkv_lt 4 _
                                    have hcu' : Hid (Cu b (r + 4) (tkn (k + 1) lp) ∧ tkz (k + 1) lp false = false) := ⟨hcu.out.1.next 4 (by rw [hnh.out]; exact h4), by show tkw 4 (tkn k lp) (tkz k lp false) = false; rw [hcu.out.1.z 4 (by rw [hnh.out]; exact h4)]; exact hcu.out.2⟩
                                    have hr' : Hid (r + 4 = q + 5 + 4 * (k + 1)) := by have h1 := hr.out; show _ = _; clear p5 i1 wA wS hwE hwE' hwL; omega
                                    have hkh : Hid (k < 5) := hk5
                                    have hXh : Hid (tka k lp = X) := hX
                                    have wX := (wu17 hX1).2
                                    have r4 := wp17 hrn hn15 4 (by decide) (by decide)
                                    have ki := wp17 (n := 5) hk (by decide) 1 (by decide) (by decide)
                                    clear hX hX1 hcu hr h4 hrn hk hk5
                                    go_wp2_with fail
                                    refine (hq0.out _ (hbw11.out _ hst.out.2)).mono ?_
                                    rintro e w12 ⟨rfl, b12⟩
                                    have h12 := (b12.block C (Array.getElem?_eq_some_iff.1 hst.out.1).1).trans hst.out.1
                                    have t12 := hid (hst.out.2.trans (Ar.Turned.ofBelow b12 _))
                                    obtain ⟨o, ho⟩ := ar5_lt k hkh.out k lp
                                    have cc := cell_of h12 ho
                                    have cf := frozen_of h12 (k := k)
                                    have hnew : Hid ((w12.setCell ⟨C, k, none⟩ (.int .u32 (X : Int))).heap[C]? = some (Obj.cells (ar5 (k + 1) lp) 100 (0, 0)) ∧ Ar.Turned (fun x => x = C) w11 (w12.setCell ⟨C, k, none⟩ (.int .u32 (X : Int)))) := by
                                      refine ⟨?_, t12.out.setCell (p := ⟨C, k, none⟩) rfl _⟩
                                      rw [set_block h12, ← hXh.out, ar5_set k hkh.out]
                                    clear hq0 b12 h12 t12 ho hst
                                    go_upto_region 39 with fail
                                    obtain ⟨w13, hw13⟩ : ∃ w13, w12.setCell ⟨C, k, none⟩ (.int .u32 (X : Int)) = w13 := ⟨_, rfl⟩
                                    rw [hw13] at hnew ⊢
                                    clear hw13 cc cf
                                    go_wp2_with fail
                                    go_roundw
                                    case rel => exact ⟨k + 1, r + 4, hkh.out, hr', gn17 (by first | rfl | exact r4), gn17 (by first | rfl | exact ki), hcu', hnew⟩
                                    case measure => exact ms17 (by first | rfl | exact ki) hkh.out
                                · have hq0 := hid (fun y hy => hw.out y hy r 4 (tkn k lp) (fun z => absurd z h4) (by clear p5 i1 wA wS hwE hwE' hwL; omega) r 4 rfl rfl (by decide) (by decide) false ⟨fun z => (by cases z), fun z => absurd z h4⟩ 0 (by rw [if_neg h4]))
                                  have hno : Hid (∀ m, ¬ Is b m) := fun m hm => by
                                    have h1 := hkfail.out m hm k hk5
                                    have h2 := hcu.out.1.len
                                    have h3 := hnh.out
                                    clear p5 i1 wA wS hwE hwE' hwL
                                    omega
                                  clear h4 hrn hk hk5
                                  go_wp2_with fail
                                  refine (hq0.out _ (hbw11.out _ hst.out.2)).mono ?_
                                  rintro e w12 ⟨rfl, b12⟩
                                  have hd9 := hid ((hnd11.out.1.keep hst.out.2 (fun k hk => hBx.out k (Nat.lt_of_lt_of_le hk hBsh.out))).more b12)
                                  clear hq0 b12 hst
                                  obtain ⟨⟨x0, x1, x2, x3⟩, hfz⟩ := hd9.out.fin
                                  have y0 := hfz 0
                                  have y1 := hfz 1
                                  have y2 := hfz 2
                                  have y3 := hfz 3
                                  clear hfz
                                  go_wp2_with fail
                                  refine bodyPost_ret (results_cell2 rfl _ _ R 25 _ (0, 0) _ rfl (four_store hd9.out.r hd9.out.belw hd9.out.lt.1 (.int .i64 0) (.slice none 0 0) (.slice none 0 0) (.slice none 0 0)).1 Tryz.underlying25 rfl (by kernel_rfl)) rfl ?_
                                  exact ⟨(four_store hd9.out.r hd9.out.belw hd9.out.lt.1 (.int .i64 0) (.slice none 0 0) (.slice none 0 0) (.slice none 0 0)).2.1, .inr ⟨hno.out, rfl⟩⟩
                              · as_aux_lemma =>
                                  obtain rfl : k = 5 := by clear p5 i1 wA wS hwE hwE' hwL; omega
                                  obtain ⟨X0, hX0⟩ : ∃ X, tka 0 lp = X := ⟨_, rfl⟩
                                  obtain ⟨X1, hX1⟩ : ∃ X, tka 1 lp = X := ⟨_, rfl⟩
                                  obtain ⟨X2, hX2⟩ : ∃ X, tka 2 lp = X := ⟨_, rfl⟩
                                  obtain ⟨X3, hX3⟩ : ∃ X, tka 3 lp = X := ⟨_, rfl⟩
                                  obtain ⟨X4, hX4⟩ : ∃ X, tka 4 lp = X := ⟨_, rfl⟩
                                  have hX4l : X4 < 4294967296 := by rw [← hX4]; exact tkv_lt 4 _
                                  have hCc : wr.heap[C]? = some (Obj.cells #[.int .u32 (X0 : Int), .int .u32 (X1 : Int), .int .u32 (X2 : Int), .int .u32 (X3 : Int), .int .u32 (X4 : Int)] 100 (0, 0)) := by
                                    rw [← hX0, ← hX1, ← hX2, ← hX3, ← hX4]
                                    exact hst.out.1
                                  obtain ⟨x, hx⟩ : ∃ x : Eg, x = ⟨X0, X2, X1, X3, sg X4⟩ := ⟨_, rfl⟩
                                  have hxe : Hid ((eqA1 (eqN j l4)).2 = x) := by
                                    unfold eqA1
                                    dsimp only
                                    rw [if_pos hlive.out, hlp.out]
                                    unfold egl
                                    rw [hX0, hX1, hX2, hX3, hX4, hx]
                                    exact hid rfl
                                  have hS : Hid (∀ y, Ar.Turned (fun i => i = B) wr y → y.cell? ⟨C, 0, none⟩ = some (.int .u32 (X0 : Int)) ∧ y.cell? ⟨C, 1, none⟩ = some (.int .u32 (X1 : Int)) ∧ y.cell? ⟨C, 2, none⟩ = some (.int .u32 (X2 : Int)) ∧ y.cell? ⟨C, 3, none⟩ = some (.int .u32 (X3 : Int)) ∧ y.cell? ⟨C, 4, none⟩ = some (.int .u32 (X4 : Int))) := fun y hy => by
                                    have h0 := (hy.block C (Array.getElem?_eq_some_iff.1 hCc).1 (Nat.ne_of_gt hBCh.out.1)).trans hCc
                                    exact ⟨cell_of h0 rfl, cell_of h0 rfl, cell_of h0 rfl, cell_of h0 rfl, cell_of h0 rfl⟩
                                  have hdr : Hid (Ar.Turned (fun i => i = B) wr wr.drew) := (Ar.Turned.refl _ _).drew
                                  have hBr : wr.heap[B]? = some (Obj.cells #[.int .u32 0, .int .u32 0, .int .u32 0, .int .u32 0, .int .i32 0] 61 (0, 0)) := (hst.out.2.block B (Nat.lt_trans hBCh.out.1 hBCh.out.2) (Nat.ne_of_lt hBCh.out.1)).trans hB11.out
                                  obtain ⟨d0, d1, d2, d3, d4⟩ := hS.out wr (Ar.Turned.refl _ _)
                                  have o0 := cell_of hBr (j := 0) rfl
                                  have o1 := cell_of hBr (j := 1) rfl
                                  have o2 := cell_of hBr (j := 2) rfl
                                  have o3 := cell_of hBr (j := 3) rfl
                                  have o4 := cell_of hBr (j := 4) rfl
                                  have g0 := frozen_of hBr (k := 0)
                                  have g1 := frozen_of hBr (k := 1)
                                  have g2 := frozen_of hBr (k := 2)
                                  have g3 := frozen_of hBr (k := 3)
                                  have g4 := frozen_of hBr (k := 4)
                                  have hsg := hid (fun y => rsigned17 hX4l y)
                                  have w64 : IntKind.u64.wrap (X4 : Int) = (X4 : Int) := wx64 hX4l
                                  have hBrh := hid hBr
                                  have hX : Hid (r = q + 5 + 4 * 5) := hr
                                  obtain ⟨sx, hsx⟩ : ∃ sx, sg X4 = sx := ⟨_, rfl⟩
                                  rw [hsx] at hsg hx
                                  have tB := hid (((((((Ar.Turned.refl (fun i => i = B) wr).setCell (p := ⟨B, 0, none⟩) rfl (.int .u32 (X0 : Int))).setCell (p := ⟨B, 1, none⟩) rfl (.int .u32 (X2 : Int))).setCell (p := ⟨B, 2, none⟩) rfl (.int .u32 (X1 : Int))).setCell (p := ⟨B, 3, none⟩) rfl (.int .u32 (X3 : Int))).setCell (p := ⟨B, 4, none⟩) rfl (.int .i32 sx)).drew)
                                  have hxh := hid hx
                                  clear hX0 hX1 hX2 hX3 hX4 hX4l hCc hx hBr hsx hr hrn hk hk5
                                  go_upto_region 40 with fail
                                  go_region_held3 (fun y => y.cell? ⟨C, 0, none⟩ = some (.int .u32 (X0 : Int)) ∧ y.cell? ⟨C, 1, none⟩ = some (.int .u32 (X1 : Int)) ∧ y.cell? ⟨C, 2, none⟩ = some (.int .u32 (X2 : Int)) ∧ y.cell? ⟨C, 3, none⟩ = some (.int .u32 (X3 : Int)) ∧ y.cell? ⟨C, 4, none⟩ = some (.int .u32 (X4 : Int))) (first | with_reducible exact hS.out _ hdr.out | with_reducible exact hS.out _ tB.out | go_keep) ((go_at_call 46; refine (hsg.out _).mono ?_; rintro e1 y1 ⟨rfl, rfl⟩))
                                  all_goals
                                    obtain ⟨wq, hwq⟩ : ∃ wq, (((((wr.setCell ⟨B, 0, none⟩ (.int .u32 (X0 : Int))).setCell ⟨B, 1, none⟩ (.int .u32 (X2 : Int))).setCell ⟨B, 2, none⟩ (.int .u32 (X1 : Int))).setCell ⟨B, 3, none⟩ (.int .u32 (X3 : Int))).setCell ⟨B, 4, none⟩ (.int .i32 sx)).drew = wq := ⟨_, rfl⟩
                                    have hBq : Hid (wq.heap[B]? = some (Obj.cells #[.int .u32 (x.f0 : Int), .int .u32 (x.f1 : Int), .int .u32 (x.n0 : Int), .int .u32 (x.n1 : Int), .int .i32 x.w] 61 (0, 0))) := by
                                      rw [← hwq, hxh.out]
                                      have q := set_block (set_block (set_block (set_block (set_block (w := wr) hBrh.out (k := 0) (.int .u32 (X0 : Int))) (k := 1) (.int .u32 (X2 : Int))) (k := 2) (.int .u32 (X1 : Int))) (k := 3) (.int .u32 (X3 : Int))) (k := 4) (.int .i32 sx)
                                      simp only [List.setIfInBounds_toArray, List.set_cons_zero, List.set_cons_succ] at q
                                      exact q
                                    have tQ : Ar.Turned (fun k => k = B) wr wq := by rw [← hwq]; exact tB.out
                                    have hdq : Hid (Dd w w7 wq R mb x0 (.slice va i vc) (.slice ea' (j + 1) ec') (.slice la j lc) ∧ wq.ownsRow w7.heap.size 58 2 (.slice ea' (j + 1) ec') (j + 1) (Ar.pcs ((eqs (j + 1) l4).map (·.1))) ∧ wq.ownsRow w7.heap.size 61 5 (.slice la j lc) j (ecs ((eqs j l4).map (·.2)))) := by
                                      refine ⟨(hnd11.out.1.keep hst.out.2 (fun k hk => hBx.out k (Nat.lt_of_lt_of_le hk hBsh.out))).keep tQ (fun k hk e => absurd (Nat.lt_of_lt_of_le hk hBsh.out) (by subst e; exact Nat.lt_irrefl _)), ?_, ?_⟩
                                      · exact Ar.ownsRow_same (Ar.ownsRow_same hnd11.out.2.1 (fun k hk => hst.out.2.block k (own_lt hnd11.out.2.1 hk).2 (hBx.out k (hrB.out k (.inl hk))))) (fun k hk => tQ.block k (Nat.lt_of_lt_of_le (own_lt hnd11.out.2.1 hk).2 hst.out.2.size) (Nat.ne_of_lt (hrB.out k (.inl hk))))
                                      · exact Ar.ownsRow_same (Ar.ownsRow_same hnd11.out.2.2 (fun k hk => hst.out.2.block k (own_lt hnd11.out.2.2 hk).2 (hBx.out k (hrB.out k (.inr hk))))) (fun k hk => tQ.block k (Nat.lt_of_lt_of_le (own_lt hnd11.out.2.2 hk).2 hst.out.2.size) (Nat.ne_of_lt (hrB.out k (.inr hk))))
                                    have hcun : Hid (Cu b r (eqN (j + 1) l4) ∧ eqZ (j + 1) l4 false = false) := by
                                      have e1 : eqN (j + 1) l4 = tkn 5 lp := by show eqL1 _ = _; unfold eqL1; rw [if_pos hlive.out, hlp.out]
                                      have e2 : eqZ (j + 1) l4 false = tkz 5 lp (plw (eqN j l4) (eqZ j l4 false)) := by show eqZ1 _ _ = _; unfold eqZ1; rw [if_pos hlive.out, hlp.out]
                                      rw [e1, e2, hzp.out, hz0j.out]
                                      exact hcu.out
                                    have hrn : Hid (12 + 5 * i + 5 * (j + 1) ≤ r) := by have h1 := hX.out; have h2 := hq5.out.2; show _ ≤ _; clear p5 i1 wA wS hwE hwE' hwL w64; omega
                                    rw [hwq]
                                    clear hwq tB hS hdr d0 d1 d2 d3 d4 o0 o1 o2 o3 o4 g0 g1 g2 g3 g4 hsg w64 hxh hst hcu hBrh tQ
                                    go_upto_region 41 with fail
                                    have c3 := cell_of hdq.out.1.m (j := 3) rfl
                                    have e0 := cell_of hBq.out (j := 0) rfl
                                    have e1 := cell_of hBq.out (j := 1) rfl
                                    have e2 := cell_of hBq.out (j := 2) rfl
                                    have e3 := cell_of hBq.out (j := 3) rfl
                                    have e4 := cell_of hBq.out (j := 4) rfl
                                    have hs7 := hdq.out.1.tur.size
                                    have hol := hdq.out.2.2
                                    obtain ⟨i5, kif, kz0, kz1, kz2⟩ := info_parts infoREdge
                                    go_wp2_with (at_builtin; refine wpList_append_own _ rfl (.tmp 185) (.tmp 187) 23 rfl w7.heap.size 61 i5 _ 5 20 Tryz.underlying23 kif kz0 kz1 kz2 rfl (by decide) _ _ _ rfl (hol.alloc _) ⟨wq.heap.size, 0, none⟩ 1 1 (ecs [x]) rfl rfl (recs_new wq x) (ecs_one _) (cap17 hcap.out).1 (cap17 hcap.out).2.2 (alloc_le hs7 _) ?_; intro v' w' ho' hg' _; refine Hid.out ?_)
                                    obtain ⟨la', lc', rfl, _, _⟩ := own_any ho'
                                    have hd' := hdq.out.1.keep (((Ar.Turned.refl (fun k => w7.heap.size ≤ k) wq).alloc _).trans (Ar.Turned.ofGrown hg' (fun k hk => (own_lt hol hk).1))) (fun k hk hk2 => absurd hk (Nat.not_lt.2 hk2))
                                    have he' := World.ownsRow.kept (hdq.out.2.1.alloc (.cells #[.int .u32 (x.f0 : Int), .int .u32 (x.f1 : Int), .int .u32 (x.n0 : Int), .int .u32 (x.n1 : Int), .int .i32 x.w] 61)) hg' (row_apart hdq.out.2.1 hol (by decide))
                                    have x3' := cell_of hd'.m (j := 3) rfl
                                    have y3' := frozen_of hd'.m (k := 3)
                                    have hmbk : ∀ k, w7.heap.size ≤ k → k < w'.heap.size → ¬ k = mb := fun k hk _ e => by have := hd'.lt.2.2; subst e; exact absurd this (Nat.not_lt.2 hk)
                                    have hT := (Ar.Turned.refl (fun k => k = mb) w').setCell (p := ⟨mb, 3, none⟩) rfl (.slice la' (j + 1) lc')
                                    have hnew : Hid (∃ ev lv, Dd w w7 (w'.setCell ⟨mb, 3, none⟩ (.slice la' (j + 1) lc')) R mb x0 (.slice va i vc) ev lv ∧ (w'.setCell ⟨mb, 3, none⟩ (.slice la' (j + 1) lc')).ownsRow w7.heap.size 58 2 ev (j + 1) (Ar.pcs ((eqs (j + 1) l4).map (·.1))) ∧ (w'.setCell ⟨mb, 3, none⟩ (.slice la' (j + 1) lc')).ownsRow w7.heap.size 61 5 lv (j + 1) (ecs ((eqs (j + 1) l4).map (·.2)))) := by
                                      refine ⟨_, _, hd'.set3 _, row_stay he' hT hmbk, ?_⟩
                                      have q1 : (eqs (j + 1) l4).map (·.2) = (eqs j l4).map (·.2) ++ [x] := by
                                        rw [eqs_succ, List.map_append]
                                        show _ ++ [(eqA1 (eqN j l4)).2] = _
                                        rw [hxe.out]
                                      rw [q1, ecs_append]
                                      exact row_stay ho' hT hmbk
                                    clear ho' hg' hol c3 e0 e1 e2 e3 e4 kif kz0 kz1 kz2 hd' he' hmbk hT hdq hBq
                                    refine hid ?_
                                    go_upto_region 22 with fail
                                    obtain ⟨wz2, hwz2⟩ : ∃ wz2, w'.setCell ⟨mb, 3, none⟩ (.slice la' (j + 1) lc') = wz2 := ⟨_, rfl⟩
                                    rw [hwz2] at hnew ⊢
                                    clear hwz2 x3' y3'
                                    go_wp2_with fail
                                    go_roundw
                                    case rel => exact ⟨j + 1, r, hlt'.out, hrn, gn17 (by first | rfl | exact p5), gn17 (by first | rfl | exact i1), hcun, hnew⟩
                                    case measure => exact ms17 (by first | rfl | exact i1) hlt'.out
                        · as_aux_lemma =>
                            have t1 : ((S : Int) == 1) = false := beq_eq_false_iff_ne.2 (fun e => hS1 (Int.ofNat_inj.1 e))
                            have hdead : Hid (¬ (plv (eqN j l4)).2 = 1) := by rw [hpA.out]; show ¬ ((S : Nat) : Int) = 1; exact fun e => hS1 (Int.ofNat_inj.1 e)
                            obtain ⟨x, hx⟩ : ∃ x : Eg, x = ez := ⟨_, rfl⟩
                            have hxe : Hid ((eqA1 (eqN j l4)).2 = x) := by
                              unfold eqA1
                              dsimp only
                              rw [if_neg hdead.out, hx]
                              exact hid rfl
                            have hcun : Hid (Cu b (q + 5) (eqN (j + 1) l4) ∧ eqZ (j + 1) l4 false = false) := by
                              have e1 : eqN (j + 1) l4 = pll (eqN j l4) := by show eqL1 _ = _; unfold eqL1; rw [if_neg hdead.out]
                              have e2 : eqZ (j + 1) l4 false = plw (eqN j l4) (eqZ j l4 false) := by show eqZ1 _ _ = _; unfold eqZ1; rw [if_neg hdead.out]
                              rw [e1, e2, hzp.out, hz0j.out]
                              exact ⟨hcup.out, rfl⟩
                            have hrn : Hid (12 + 5 * i + 5 * (j + 1) ≤ q + 5) := hq5.out.2
                            have hdq := hnd10
                            have hBq : Hid (w10.heap[B]? = some (Obj.cells #[.int .u32 (x.f0 : Int), .int .u32 (x.f1 : Int), .int .u32 (x.n0 : Int), .int .u32 (x.n1 : Int), .int .i32 x.w] 61 (0, 0))) := by rw [hx]; exact hn10
                            clear hx hS1 hnd10 hn10 p4
                            go_upto_region 41 with fail
                            have c3 := cell_of hdq.out.1.m (j := 3) rfl
                            have e0 := cell_of hBq.out (j := 0) rfl
                            have e1 := cell_of hBq.out (j := 1) rfl
                            have e2 := cell_of hBq.out (j := 2) rfl
                            have e3 := cell_of hBq.out (j := 3) rfl
                            have e4 := cell_of hBq.out (j := 4) rfl
                            have hs7 := hdq.out.1.tur.size
                            have hol := hdq.out.2.2
                            obtain ⟨i5, kif, kz0, kz1, kz2⟩ := info_parts infoREdge
                            go_wp2_with (at_builtin; refine wpList_append_own _ rfl (.tmp 185) (.tmp 187) 23 rfl w7.heap.size 61 i5 _ 5 20 Tryz.underlying23 kif kz0 kz1 kz2 rfl (by decide) _ _ _ rfl (hol.alloc _) ⟨w10.heap.size, 0, none⟩ 1 1 (ecs [x]) rfl rfl (recs_new w10 x) (ecs_one _) (cap17 hcap.out).1 (cap17 hcap.out).2.2 (alloc_le hs7 _) ?_; intro v' w' ho' hg' _; refine Hid.out ?_)
                            obtain ⟨la', lc', rfl, _, _⟩ := own_any ho'
                            have hd' := hdq.out.1.keep (((Ar.Turned.refl (fun k => w7.heap.size ≤ k) w10).alloc _).trans (Ar.Turned.ofGrown hg' (fun k hk => (own_lt hol hk).1))) (fun k hk hk2 => absurd hk (Nat.not_lt.2 hk2))
                            have he' := World.ownsRow.kept (hdq.out.2.1.alloc (.cells #[.int .u32 (x.f0 : Int), .int .u32 (x.f1 : Int), .int .u32 (x.n0 : Int), .int .u32 (x.n1 : Int), .int .i32 x.w] 61)) hg' (row_apart hdq.out.2.1 hol (by decide))
                            have x3' := cell_of hd'.m (j := 3) rfl
                            have y3' := frozen_of hd'.m (k := 3)
                            have hmbk : ∀ k, w7.heap.size ≤ k → k < w'.heap.size → ¬ k = mb := fun k hk _ e => by have := hd'.lt.2.2; subst e; exact absurd this (Nat.not_lt.2 hk)
                            have hT := (Ar.Turned.refl (fun k => k = mb) w').setCell (p := ⟨mb, 3, none⟩) rfl (.slice la' (j + 1) lc')
                            have hnew : Hid (∃ ev lv, Dd w w7 (w'.setCell ⟨mb, 3, none⟩ (.slice la' (j + 1) lc')) R mb x0 (.slice va i vc) ev lv ∧ (w'.setCell ⟨mb, 3, none⟩ (.slice la' (j + 1) lc')).ownsRow w7.heap.size 58 2 ev (j + 1) (Ar.pcs ((eqs (j + 1) l4).map (·.1))) ∧ (w'.setCell ⟨mb, 3, none⟩ (.slice la' (j + 1) lc')).ownsRow w7.heap.size 61 5 lv (j + 1) (ecs ((eqs (j + 1) l4).map (·.2)))) := by
                              refine ⟨_, _, hd'.set3 _, row_stay he' hT hmbk, ?_⟩
                              have q1 : (eqs (j + 1) l4).map (·.2) = (eqs j l4).map (·.2) ++ [x] := by
                                rw [eqs_succ, List.map_append]
                                show _ ++ [(eqA1 (eqN j l4)).2] = _
                                rw [hxe.out]
                              rw [q1, ecs_append]
                              exact row_stay ho' hT hmbk
                            clear ho' hg' hol c3 e0 e1 e2 e3 e4 kif kz0 kz1 kz2 hd' he' hmbk hT hdq hBq
                            refine hid ?_
                            go_upto_region 22 with fail
                            obtain ⟨wz2, hwz2⟩ : ∃ wz2, w'.setCell ⟨mb, 3, none⟩ (.slice la' (j + 1) lc') = wz2 := ⟨_, rfl⟩
                            rw [hwz2] at hnew ⊢
                            clear hwz2 x3' y3'
                            go_wp2_with fail
                            go_roundw
                            case rel => exact ⟨j + 1, q + 5, hlt'.out, hrn, gn17 (by first | rfl | exact p5), gn17 (by first | rfl | exact i1), hcun, hnew⟩
                            case measure => exact ms17 (by first | rfl | exact i1) hlt'.out
                    · as_aux_lemma =>
                        obtain ⟨z0, hz0⟩ : ∃ z : Bool, z = true ↔ q + 4 ≤ n := ⟨decide (q + 4 ≤ n), by simp⟩
                        obtain ⟨a0, ha0⟩ : ∃ x, x = (if q + 4 ≤ n then tkv 4 (eqN j l4) else 0) := ⟨_, rfl⟩
                        have hq0 := hid (fun y hy => hw.out y hy q 4 (eqN j l4) (fun _ => hcu.out.1) (by clear hwE hwE' hwL; omega) q 4 rfl rfl (by decide) (by decide) z0 hz0 a0 ha0)
                        have hq1 := hid (fun y hy => hw.out y hy (q + 4) 1 [] (fun r => by clear hwE hwE' hwL; omega) (by clear hwE hwE' hwL; omega) ((q : Int) + 4) 1 rfl rfl (by decide) (by decide) false ⟨fun r => (by cases r), fun r => by clear hwE hwE' hwL; omega⟩ 0 (by rw [if_neg (by clear hwE hwE' hwL; omega)]))
                        have hno : Hid (∀ m, ¬ Is b m) := fun m hm => by
                          have h1 := (eq_len (hbad.out m hm)).1
                          have h2 := hcu.out.1.len
                          have h3 := hnh.out
                          clear hwE hwE' hwL
                          omega
                        have p4 := wp17 hqn hn15 4 (by decide) (by decide)
                        clear hz0 ha0 h5 hqn hlt hj
                        cases z0
                        all_goals
                          go_wp2_with fail
                          refine (hq0.out _ hbr.out).mono ?_
                          rintro e w2 ⟨rfl, b2⟩
                          replace b2 := hid b2
                          go_wp2_with fail
                          refine (hq1.out _ (hbw.out _ b2.out)).mono ?_
                          rintro e w9 ⟨rfl, b9⟩
                          have hd9 := hid (hdd.out.more (b2.out.trans (b9.mono b2.out.size)))
                          clear b9 b2 hq0 hq1
                          obtain ⟨⟨x0, x1, x2, x3⟩, hfz⟩ := hd9.out.fin
                          have y0 := hfz 0
                          have y1 := hfz 1
                          have y2 := hfz 2
                          have y3 := hfz 3
                          clear hfz
                          go_wp2_with fail
                          refine bodyPost_ret (results_cell2 rfl _ _ R 25 _ (0, 0) _ rfl (four_store hd9.out.r hd9.out.belw hd9.out.lt.1 (.int .i64 0) (.slice none 0 0) (.slice none 0 0) (.slice none 0 0)).1 Tryz.underlying25 rfl (by kernel_rfl)) rfl ?_
                          exact ⟨(four_store hd9.out.r hd9.out.belw hd9.out.lt.1 (.int .i64 0) (.slice none 0 0) (.slice none 0 0) (.slice none 0 0)).2.1, .inr ⟨hno.out, rfl⟩⟩
                  · as_aux_lemma =>
                      have hjE : j = E := by clear hwE hwE' hwL; omega
                      subst hjE
                      have hb15 : b.length ≤ 1500 := hblh.out
                      obtain ⟨hda, hdi, hds⟩ := dec_all (at2 := 8) hb15 (by rw [hnh.out]; exact hnum.out.1) hl2.out hV.out hl3.out (by rw [← hp.out]; exact hcu3.out.1) hcu3.out.2 (by rw [hnh.out, ← hp.out]; exact h4h.out) hE.out hl4.out hq.out hcu.out.1 hcu.out.2
                      have hMd : Hid (dM b = ⟨(x0 : Int), pls i l2, (eqs j l4).map (·.1), (eqs j l4).map (·.2)⟩) := by rw [hda, hx0'.out]; exact hid rfl
                      have hlens : Hid (i ≤ 400 ∧ j ≤ 400) := by have h1 := hq.out; have h2 := hnum.out; clear hwE hwE' hwL; exact ⟨by omega, by omega⟩
                      have hrows : Hid (wr.ownsRow w5.heap.size 58 2 (.slice va i vc) i (Ar.pcs (pls i l2))) := row_stay ho9.out hdd.out.tur (fun k hk _ e => absurd hmb5.out (by subst e; exact Nat.not_lt.2 hk))
                      obtain ⟨M, hM⟩ : ∃ M : Mo, M = ⟨(x0 : Int), pls i l2, (eqs j l4).map (·.1), (eqs j l4).map (·.2)⟩ := ⟨_, rfl⟩
                      have hMl : Hid (M.n = (x0 : Int) ∧ M.vs.length ≤ 400 ∧ M.es.length ≤ 400 ∧ M.l.length ≤ 400) := by
                        rw [hM]
                        exact ⟨rfl, by show (pls i l2).length ≤ 400; rw [pls_len]; exact hlens.out.1, by show ((eqs j l4).map (·.1)).length ≤ 400; rw [List.length_map, eqs_len]; exact hlens.out.2, by show ((eqs j l4).map (·.2)).length ≤ 400; rw [List.length_map, eqs_len]; exact hlens.out.2⟩
                      have hMp : Hid (∀ y, y.ownsRow w5.heap.size 58 2 (.slice va i vc) i (Ar.pcs (pls i l2)) → y.ownsRow w7.heap.size 58 2 (.slice ea j ec) j (Ar.pcs ((eqs j l4).map (·.1))) → y.ownsRow w7.heap.size 61 5 (.slice la j lc) j (ecs ((eqs j l4).map (·.2))) → Mp y (.slice va i vc) (.slice ea j ec) (.slice la j lc) M) := fun y h1 h2 h3 => by
                        rw [hM]
                        exact ⟨pv_of2 h1 (pls_len _ _) pls_pn, pv_of2 h2 (by rw [List.length_map, eqs_len]) eqs_pn, egv_of2 h3 (by rw [List.length_map, eqs_len]) eqs_en⟩
                      have hMd2 : Hid (dM b = M) := by rw [hM]; exact hMd
                      have hRd := hid (rround17_ok (hMp.out wr hrows.out hoe.out hol.out) hMl.out.1 hMl.out.2.1 hMl.out.2.2.1 hMl.out.2.2.2)
                      have hdih := hid hdi
                      have hdsh := hid hds
                      have m0 := cell_of hdd.out.m (j := 0) rfl
                      have m1 := cell_of hdd.out.m (j := 1) rfl
                      have m2 := cell_of hdd.out.m (j := 2) rfl
                      have m3 := cell_of hdd.out.m (j := 3) rfl
                      clear hda hdi hds hM hMd hb15 hj hqn hge
                      go_wp2_with fail
                      refine hRd.out.mono ?_
                      rintro e w13 ⟨b13, hres⟩
                      have hd9 := hid (hdd.out.more b13)
                      have hr13 : Hid (w13.ownsRow w5.heap.size 58 2 (.slice va i vc) i (Ar.pcs (pls i l2)) ∧ w13.ownsRow w7.heap.size 58 2 (.slice ea j ec) j (Ar.pcs ((eqs j l4).map (·.1))) ∧ w13.ownsRow w7.heap.size 61 5 (.slice la j lc) j (ecs ((eqs j l4).map (·.2)))) := ⟨ownsRow_below hrows.out b13, ownsRow_below hoe.out b13, ownsRow_below hol.out b13⟩
                      clear m0 m1 m2 m3 hRd b13 hdd
                      by_cases hqn : q = n
                      · have t1 : ((q : Int) != (n : Int)) = false := by rw [hqn]; simp
                        have hqb : Hid (q = b.length) := hqn.trans hnh.out.symm
                        clear hqn
                        rcases hres with ⟨hmay, a', k', c', rfl, _⟩ | ⟨hmay, rfl⟩
                        · have his : Hid (Is b M) := by
                            have h1 := hdsh.out hqb.out (by rw [hMd2.out]; exact hmay)
                            rw [hMd2.out] at h1
                            exact h1
                          obtain ⟨⟨z0, z1, z2, z3⟩, hfz⟩ := hd9.out.fin
                          have y0 := hfz 0
                          have y1 := hfz 1
                          have y2 := hfz 2
                          have y3 := hfz 3
                          have m0 := cell_of hd9.out.m (j := 0) rfl
                          have m1 := cell_of hd9.out.m (j := 1) rfl
                          have m2 := cell_of hd9.out.m (j := 2) rfl
                          have m3 := cell_of hd9.out.m (j := 3) rfl
                          have hfs := hid (four_store hd9.out.r hd9.out.belw hd9.out.lt.1 (.int .i64 (x0 : Int)) (.slice va i vc) (.slice ea j ec) (.slice la j lc))
                          have hR5 : Hid (R < w5.heap.size ∧ R < w7.heap.size) := ⟨Nat.lt_trans hd9.out.lt.2.1 hmb5.out, Nat.lt_trans hd9.out.lt.2.1 hd9.out.lt.2.2⟩
                          have hfm := hid (hMp.out _ (row_stay hr13.out.1 hfs.out.2.2 (fun k hk _ e => by subst e; exact absurd hR5.out.1 (Nat.not_lt.2 hk))) (row_stay hr13.out.2.1 hfs.out.2.2 (fun k hk _ e => by subst e; exact absurd hR5.out.2 (Nat.not_lt.2 hk))) (row_stay hr13.out.2.2 hfs.out.2.2 (fun k hk _ e => by subst e; exact absurd hR5.out.2 (Nat.not_lt.2 hk))))
                          clear hfz hmay hMp
                          go_wp2_with fail
                          refine bodyPost_ret (results_cell2 rfl _ _ R 25 _ (0, 0) _ rfl hfs.out.1 Tryz.underlying25 rfl (by kernel_rfl)) rfl ?_
                          exact ⟨hfs.out.2.1, .inl ⟨M, _, _, _, his.out, by rw [hMl.out.1]; rfl, hfm.out, Nat.le_trans hMl.out.2.1 (by decide), Nat.le_trans hMl.out.2.2.1 (by decide), Nat.le_trans hMl.out.2.2.2 (by decide)⟩⟩
                        · have hno : Hid (∀ m, ¬ Is b m) := fun m hm => hmay (by rw [← hMd2.out]; exact (hdih.out.1 ⟨m, hm⟩).2)
                          clear hmay hMp
                          obtain ⟨⟨x0, x1, x2, x3⟩, hfz⟩ := hd9.out.fin
                          have y0 := hfz 0
                          have y1 := hfz 1
                          have y2 := hfz 2
                          have y3 := hfz 3
                          clear hfz
                          go_wp2_with fail
                          refine bodyPost_ret (results_cell2 rfl _ _ R 25 _ (0, 0) _ rfl (four_store hd9.out.r hd9.out.belw hd9.out.lt.1 (.int .i64 0) (.slice none 0 0) (.slice none 0 0) (.slice none 0 0)).1 Tryz.underlying25 rfl (by kernel_rfl)) rfl ?_
                          exact ⟨(four_store hd9.out.r hd9.out.belw hd9.out.lt.1 (.int .i64 0) (.slice none 0 0) (.slice none 0 0) (.slice none 0 0)).2.1, .inr ⟨hno.out, rfl⟩⟩
                      · have t1 : ((q : Int) != (n : Int)) = true := bne_iff_ne.2 (fun e => hqn (Int.ofNat_inj.1 e))
                        have hno : Hid (∀ m, ¬ Is b m) := fun m hm => hqn ((hdih.out.1 ⟨m, hm⟩).1.trans hnh.out)
                        clear hqn hMp
                        rcases hres with ⟨_, a', k', c', rfl, _⟩ | ⟨_, rfl⟩
                        all_goals
                          obtain ⟨⟨x0, x1, x2, x3⟩, hfz⟩ := hd9.out.fin
                          have y0 := hfz 0
                          have y1 := hfz 1
                          have y2 := hfz 2
                          have y3 := hfz 3
                          clear hfz
                          go_wp2_with fail
                          refine bodyPost_ret (results_cell2 rfl _ _ R 25 _ (0, 0) _ rfl (four_store hd9.out.r hd9.out.belw hd9.out.lt.1 (.int .i64 0) (.slice none 0 0) (.slice none 0 0) (.slice none 0 0)).1 Tryz.underlying25 rfl (by kernel_rfl)) rfl ?_
                          exact ⟨(four_store hd9.out.r hd9.out.belw hd9.out.lt.1 (.int .i64 0) (.slice none 0 0) (.slice none 0 0) (.slice none 0 0)).2.1, .inr ⟨hno.out, rfl⟩⟩
          · as_aux_lemma =>
              have hq0 := hid (fun y hy => hw.out y hy p 4 l3 (fun r => absurd r h4) (by clear hwV hwV'; omega) p 4 rfl rfl (by decide) (by decide) false ⟨fun r => (by cases r), fun r => absurd r h4⟩ 0 (by rw [if_neg h4]))
              have hno : Hid (∀ m, ¬ Is b m) := fun m hm => by
                obtain ⟨_, h3⟩ := hkeyd.out m hm
                have h1 := (Hd.of hm).e4
                rw [h3] at h1
                have h2 := hcu3.out.1.len
                have h6 := hnh.out
                clear hwV hwV'
                omega
              clear h4 hpn h8 hVn
              go_wp2_with fail
              refine (hq0.out _ hbr.out).mono ?_
              rintro e w7 ⟨rfl, b7⟩
              have hd9 := hid (hdd.out.more b7)
              clear hq0 b7 hwV hwV'
              obtain ⟨⟨x0, x1, x2, x3⟩, hfz⟩ := hd9.out.fin
              have y0 := hfz 0
              have y1 := hfz 1
              have y2 := hfz 2
              have y3 := hfz 3
              clear hfz
              go_wp2_with fail
              refine bodyPost_ret (results_cell2 rfl _ _ R 25 _ (0, 0) _ rfl (four_store hd9.out.r hd9.out.belw hd9.out.lt.1 (.int .i64 0) (.slice none 0 0) (.slice none 0 0) (.slice none 0 0)).1 Tryz.underlying25 rfl (by kernel_rfl)) rfl ?_
              exact ⟨(four_store hd9.out.r hd9.out.belw hd9.out.lt.1 (.int .i64 0) (.slice none 0 0) (.slice none 0 0) (.slice none 0 0)).2.1, .inr ⟨hno.out, rfl⟩⟩
  · as_aux_lemma =>
      have hz1 : (false : Bool) = true ↔ 4 + 4 ≤ n := ⟨fun q => (by cases q), fun q => absurd q h8⟩
      have hq1 := hid (fun y hy => hw.out y hy 4 4 [] (fun q => absurd q h8) (by decide) 4 4 rfl rfl (by decide) (by decide) false hz1 0 (by rw [if_neg h8]))
      have hno : Hid (∀ m, ¬ Is b m) := fun m hm => by
        have h1 := (Hd.of hm).h8
        have h2 := hnh.out
        clear hwL
        omega
      clear hz0 hx0 h8 hn15 c0 hz1
      cases z0
      all_goals
        go_wp2_with fail
        refine (hq0.out _ b1h.out).mono ?_
        rintro e w2 ⟨rfl, b2⟩
        have hbw2 := hid (b1h.out.trans (b2.mono b1h.out.size))
        have n2 := hid ((b2.block R hRl).trans n1h.out)
        have hRl2 : R < w2.heap.size := (Array.getElem?_eq_some_iff.1 n2.out).1
        clear hq0 b2
        go_wp2_with fail
        refine (hq1.out _ hbw2.out).mono ?_
        rintro e w3 ⟨rfl, b3⟩
        have hbw3 := hid (hbw2.out.trans (b3.mono hbw2.out.size))
        have n3 := hid ((b3.block R hRl2).trans n2.out)
        have hfs := hid (four_store (w := w) n3.out hbw3.out (Nat.le_of_eq hRh.out))
        have x0 := cell_of n3.out (j := 0) rfl
        have x1 := cell_of n3.out (j := 1) rfl
        have x2 := cell_of n3.out (j := 2) rfl
        have x3 := cell_of n3.out (j := 3) rfl
        have y0 := frozen_of n3.out (k := 0)
        have y1 := frozen_of n3.out (k := 1)
        have y2 := frozen_of n3.out (k := 2)
        have y3 := frozen_of n3.out (k := 3)
        clear hq1 b3 hRl2 hbw2 n2
        go_wp2_with fail
        refine bodyPost_ret (results_cell2 rfl _ _ R 25 _ (0, 0) _ rfl (hfs.out _ _ _ _).1 Tryz.underlying25 rfl (by kernel_rfl)) rfl ?_
        exact ⟨(hfs.out _ _ _ _).2.1, .inr ⟨hno.out, rfl⟩⟩

end Go.Proofs.YtboafgimjadboaaGreatDoor
