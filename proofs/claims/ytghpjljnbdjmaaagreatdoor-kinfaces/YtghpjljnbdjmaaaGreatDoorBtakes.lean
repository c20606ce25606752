/- 'least', 'Degree', 'Round', 'Sizes', 'New', walked. 'New', 'Check', walked. 'put', 'take' over what stands round; 'Lift', walked. -/
import Derived.Test.YtghpjljnbdjmaaaGreatDoorApi10
import Derived.Test.YtghpjljnbdjmaaaGreatDoorBfind
import Derived.Test.YtghpjljnbdjmaaaGreatDoorBwith
namespace Go.Proofs.YtghpjljnbdjmaaaGreatDoor
open Go.RowKit
set_option linter.unusedVariables false

theorem itn_mem {l : List Nat} {x : Nat} (hn : l.Nodup) (hx : x ∈ l) : ∀ k, itn (nx l) k x ∈ l
  | 0 => hx
  | k + 1 => nx_mem (itn_mem hn hx k)

theorem itn_all {l : List Nat} {x y : Nat} (hn : l.Nodup) (hx : x ∈ l) (hy : y ∈ l) : ∃ k, k < l.length ∧ itn (nx l) k x = y := by
  obtain ⟨i, hi⟩ := List.getElem?_of_mem (rot_mem (x := x).2 hy)
  have hil := (List.getElem?_eq_some_iff.1 hi).1
  rw [rot_len] at hil
  rw [itn_get hn hx i hil] at hi
  exact ⟨i, hil, Option.some.inj hi⟩

/-- The least of those gone over. -/
def Lt (l : List Nat) (x i y : Nat) : Prop := y ∈ l ∧ ∀ k, k < i → y ≤ itn (nx l) k x

theorem Lt.end_ {l : List Nat} {x y : Nat} (hn : l.Nodup) (hx : x ∈ l) (h : Lt l x l.length y) : y = least0 l := by
  have hne : l ≠ [] := fun e => by rw [e] at hx; simp at hx
  obtain ⟨k, hk, e⟩ := itn_all hn hx (least0_mem l hne)
  have h1 := h.2 k hk
  rw [e] at h1
  have h2 := least0_le l y h.1
  omega

section
variable {w : World} {lo tb V E : Nat} {R : Nat → List Nat}

set_option maxRecDepth 100000 in
set_option maxHeartbeats 2000000 in
theorem least_ok (h : TA w lo tb V E R) (v dg so : Nat) (hv : v < V) (hdg : dg = (R v).length) (hso : R v ≠ [] → so ∈ R v) :
    Calls Tryz.prog 62 #[.pointer (some ⟨tb, 0, none⟩), .agg #[.int .i32 (dg : Int), .int .i32 (so : Int)]] w fun e w' => ∃ x : Nat, e = .returned (.int .i32 (x : Int)) ∧ (R v ≠ [] → x = least0 (R v)) ∧ Below w.heap.size w w' := by
  have hn := h.tn.nd v hv
  have hlen := h.tn.len hv
  have hEb := h.hE
  rw [← hdg] at hlen
  obtain ⟨l, hl⟩ : ∃ l, R v = l := ⟨_, rfl⟩
  have hlow : ∀ x, x ∈ l → x ≤ 2097152 := fun x hx => by have := low32 h hv (hl ▸ hx); omega
  obtain ⟨dv, sv, K, M, D, S, h1, h2⟩ := h
  have hon : ∀ x, x ∈ l → D x = ⟨nx l x, pv l x, (v : Int)⟩ := fun x hx => by rw [← hl]; exact h2.on v x hv (hl ▸ hx)
  rw [hl] at hn hdg hso ⊢
  have hh := hid (And.intro h1 (And.intro hon hlow))
  replace hn := hid hn
  replace hdg := hid hdg
  replace hso := hid hso
  obtain ⟨c0, c1, _, _⟩ := blk2' (heap_alloc_new w (.cells #[.int .i32 (dg : Int), .int .i32 (so : Int)] 110))
  have hb := hid (balloc w (.cells #[.int .i32 (dg : Int), .int .i32 (so : Int)] 110))
  obtain ⟨w1, hw1⟩ : ∃ w1, w.alloc (.cells #[.int .i32 (dg : Int), .int .i32 (so : Int)] 110) = w1 := ⟨_, rfl⟩
  rw [hw1] at c0 c1 hb
  clear h1 h2 hl hon hlow
  go_enter Tryz.func62, Tryz.ntmps62
  go_wp2_with fail
  try rw [hw1]
  go_wp2_with fail
  go_quiet (fail)
  go_wp2_with fail
  clear hw1 c0 c1
  generalize hwq : w1.drewN _ = wq
  replace hb : Hid (Below w.heap.size w wq) := by rw [← hwq]; exact hid (belowN hb.out _)
  clear hwq
  by_cases h0 : dg = 0
  · subst h0
    go_loop [5, 6, 13] (fun _ s6 s13 => s6 = .int .i32 (so : Int) ∧ s13 = .int .i32 0) (fun _ _ _ => 0)
    case atStart => exact ⟨rfl, by go_num⟩
    case round =>
      obtain ⟨rfl, rfl⟩ := hrel
      go_wp2_with fail
      go_ret
      exact ⟨so, rfl, fun hne => absurd (List.eq_nil_of_length_eq_zero hdg.out.symm) hne, hb.out⟩
  · have hsm : Hid (so ∈ l) := hso.out (fun e => by have := hdg.out; rw [e] at this; simp at this; omega)
    go_loop [5, 6, 13] (fun s5 s6 s13 => ∃ i x y : Nat, i ≤ dg ∧ s13 = .int .i32 (i : Int) ∧ s5 = .int .i32 (x : Int) ∧ s6 = .int .i32 (y : Int) ∧ Hid (x = itn (nx l) i so ∧ Lt l so i y)) (fun _ _ s13 => dg - (intOf s13).toNat)
    case atStart => exact ⟨0, so, so, by omega, by go_num, rfl, rfl, rfl, hsm.out, fun k hk => by omega⟩
    case round =>
      obtain ⟨i, x, y, hi, rfl, rfl, rfl, hst⟩ := hrel
      rcases Nat.lt_or_ge i dg with hlt | hge
      · have hxm : x ∈ l := by rw [hst.out.1]; exact itn_mem hn.out hsm.out i
        have hxl := hh.out.2.2 x hxm
        have hyl := hh.out.2.2 y hst.out.2.1
        have hox := hh.out.2.1 x hxm
        have hm := hh.out.1.more hb.out
        have hxK : x < K := hm.dlt (by rw [hox]; simp only []; omega)
        obtain ⟨g, cap, rfl, hc1, hc2⟩ := own_form hm.da (by omega)
        obtain ⟨a0, _, _⟩ := hm.dat hxK
        rw [hox] at a0
        simp only [] at a0
        have c2 := hm.c2
        have i1 : (0 : Int) ≤ (x : Int) := by omega
        have i2 : (x : Int) < (K : Int) := by omega
        have hnx : Hid (nx l x = itn (nx l) (i + 1) so) := by rw [hst.out.1]; exact hid rfl
        have hyx : Hid (∀ z, (z = y ∨ z = x) → z ≤ y → z ≤ x → Lt l so (i + 1) z) := fun z hz h1 h2 => by
          refine ⟨?_, fun k hk => ?_⟩
          · rcases hz with rfl | rfl
            · exact hst.out.2.1
            · exact hxm
          · by_cases e : k = i
            · subst e; rw [← hst.out.1]; exact h2
            · exact Nat.le_trans h1 (hst.out.2.2 k (by omega))
        have t1 : decide ((i : Int) < (dg : Int)) = true := decide_eq_true (by omega)
        clear hm hox hst hxm
        generalize nx l x = z at a0 hnx
        rcases Nat.lt_or_ge x y with hxy | hxy
        · go_wp2_with fail
          go_round
          case rel => exact ⟨i + 1, z, x, by omega, by go_num, rfl, rfl, hnx.out, hyx.out x (.inr rfl) (by omega) (Nat.le_refl _)⟩
          case measure => simp [intOf]; omega
        · go_wp2_with fail
          go_round
          case rel => exact ⟨i + 1, z, y, by omega, by go_num, rfl, rfl, hnx.out, hyx.out y (.inl rfl) (Nat.le_refl _) hxy⟩
          case measure => simp [intOf]; omega
      · obtain rfl : i = dg := by omega
        have t1 : decide ((i : Int) < (i : Int)) = false := decide_eq_false (by omega)
        go_wp2_with fail
        go_ret
        exact ⟨y, rfl, fun _ => (Lt.end_ hn.out hsm.out (by rw [← hdg.out]; exact hst.out.2)), hb.out⟩

set_option maxRecDepth 100000 in
set_option maxHeartbeats 1000000 in
theorem degree_nil (v : Int) (w : World) : Calls Tryz.prog 42 #[.pointer none, .int .i64 v] w fun x w' => x = .returned (.tuple #[.int .i64 0, .iface 88 (.int .i64 1)]) ∧ Below w.heap.size w w' := by
  have hh := hid (stand_nil v w)
  go_enter Tryz.func42, Tryz.ntmps42
  go_wp2_with fail
  refine hh.out.mono ?_
  rintro x w1 ⟨rfl, b1⟩
  have hb := hid (b1.alloc b1.size (.cells #[.int .i32 0, .int .i32 0] 110))
  clear b1
  go_wp2_with fail
  go_ret2
  exact ⟨rfl, hb.out⟩

set_option maxRecDepth 100000 in
set_option maxHeartbeats 1000000 in
theorem degree_range (h : TA w lo tb V E R) (v : Int) (hv : v < 0 ∨ (V : Int) ≤ v) : Calls Tryz.prog 42 #[.pointer (some ⟨tb, 0, none⟩), .int .i64 v] w fun x w' => x = .returned (.tuple #[.int .i64 0, .iface 88 (.int .i64 12)]) ∧ Below w.heap.size w w' := by
  obtain ⟨dv, sv, K, M, D, S, h1, h2⟩ := h
  have hh := hid (stand_range v h1 hv)
  clear h1 h2 hv
  go_enter Tryz.func42, Tryz.ntmps42
  go_wp2_with fail
  refine hh.out.mono ?_
  rintro x w1 ⟨rfl, b1⟩
  have hb := hid (b1.alloc b1.size (.cells #[.int .i32 0, .int .i32 0] 110))
  clear b1
  go_wp2_with fail
  go_ret2
  exact ⟨rfl, hb.out⟩

theorem TA.stand (h : TA w lo tb V E R) (v : Nat) (hv : v < V) : ∃ dg so : Nat, dg = (R v).length ∧ (R v ≠ [] → so ∈ R v) ∧ dg ≤ 2097152 ∧ Calls Tryz.prog 61 #[.pointer (some ⟨tb, 0, none⟩), .int .i64 (v : Int)] w fun e w' => e = .returned (.tuple #[.agg #[.int .i32 (dg : Int), .int .i32 (so : Int)], .nilIface]) ∧ Below w.heap.size w w' := by
  have hl := h.tn.len hv
  have hEb := h.hE
  obtain ⟨dv, sv, K, M, D, S, h1, h2⟩ := h
  exact ⟨(S v).dg, (S v).so, h2.deg v hv, h2.som v hv, by rw [h2.deg v hv]; omega, stand_ok v h1 hv⟩

set_option maxRecDepth 100000 in
set_option maxHeartbeats 1000000 in
theorem degree_ok (h : TA w lo tb V E R) (v : Nat) (hv : v < V) : Calls Tryz.prog 42 #[.pointer (some ⟨tb, 0, none⟩), .int .i64 (v : Int)] w fun x w' => x = .returned (.tuple #[.int .i64 ((R v).length : Int), .nilIface]) ∧ Below w.heap.size w w' := by
  obtain ⟨dg, so, hdg, _, hle, hh⟩ := h.stand v hv
  rw [← hdg]
  replace hh := hid hh
  clear h hv hdg
  go_enter Tryz.func42, Tryz.ntmps42
  go_wp2_with fail
  refine hh.out.mono ?_
  rintro x w1 ⟨rfl, b1⟩
  have hb := hid (b1.alloc b1.size (.cells #[.int .i32 (dg : Int), .int .i32 (so : Int)] 110))
  clear b1
  go_wp2_with fail
  go_ret2
  exact ⟨rfl, hb.out⟩

set_option maxRecDepth 100000 in
set_option maxHeartbeats 1000000 in
theorem round_nil (v : Int) (w : World) : Calls Tryz.prog 28 #[.pointer none, .int .i64 v] w fun x w' => x = .returned (.tuple #[.slice none 0 0, .iface 88 (.int .i64 1)]) ∧ Below w.heap.size w w' := by
  have hh := hid (stand_nil v w)
  go_enter Tryz.func28, Tryz.ntmps28
  go_wp2_with fail
  refine hh.out.mono ?_
  rintro x w1 ⟨rfl, b1⟩
  have hb := hid (b1.alloc b1.size (.cells #[.int .i32 0, .int .i32 0] 110))
  clear b1
  go_wp2_with fail
  go_ret2
  exact ⟨rfl, hb.out⟩

set_option maxRecDepth 100000 in
set_option maxHeartbeats 1000000 in
theorem round_range (h : TA w lo tb V E R) (v : Int) (hv : v < 0 ∨ (V : Int) ≤ v) : Calls Tryz.prog 28 #[.pointer (some ⟨tb, 0, none⟩), .int .i64 v] w fun x w' => x = .returned (.tuple #[.slice none 0 0, .iface 88 (.int .i64 12)]) ∧ Below w.heap.size w w' := by
  obtain ⟨dv, sv, K, M, D, S, h1, h2⟩ := h
  have hh := hid (stand_range v h1 hv)
  clear h1 h2 hv
  go_enter Tryz.func28, Tryz.ntmps28
  go_wp2_with fail
  refine hh.out.mono ?_
  rintro x w1 ⟨rfl, b1⟩
  have hb := hid (b1.alloc b1.size (.cells #[.int .i32 0, .int .i32 0] 110))
  clear b1
  go_wp2_with fail
  go_ret2
  exact ⟨rfl, hb.out⟩

theorem ownsRow_below' {w w' : World} {base e size n : Nat} {v : Value} {xs : List Value} (h : w.ownsRow base e size v n xs) (hb : Below w.heap.size w w') : w'.ownsRow base e size v n xs := by
  refine ⟨h.1, ?_⟩
  rcases h.2 with h2 | ⟨g, cap, cur, hv, hg, hh, r⟩
  · exact .inl h2
  · refine .inr ⟨g, cap, cur, hv, hg, ?_, r⟩
    rw [hb.block g (Array.getElem?_eq_some_iff.1 hh).1]
    exact hh

theorem set_mid (A : List Value) (z u : Value) (j n : Nat) (hA : A.length = j) (hj : j < n) : (A ++ List.replicate (n - j) z).set j u = (A ++ [u]) ++ List.replicate (n - (j + 1)) z := by
  rw [List.set_append_right _ _ (by omega), hA, Nat.sub_self, show n - j = (n - (j + 1)) + 1 from by omega, List.replicate_succ, List.set_cons_zero]
  simp

theorem get_mid (A : List Value) (z : Value) (j n : Nat) (hA : A.length = j) (hj : j < n) : (A ++ List.replicate (n - j) z)[j]? = some z := by
  rw [List.getElem?_append_right (by omega), hA, Nat.sub_self, List.getElem?_replicate, if_pos (by omega)]

set_option maxRecDepth 100000 in
set_option maxHeartbeats 2000000 in
theorem round_ok (h : TA w lo tb V E R) (v : Nat) (hv : v < V) : Calls Tryz.prog 28 #[.pointer (some ⟨tb, 0, none⟩), .int .i64 (v : Int)] w fun x w' => ∃ rv, x = .returned (.tuple #[rv, .nilIface]) ∧ w'.ownsRow w.heap.size 3 1 rv (R v).length (ncs (lf (R v))) ∧ Below w.heap.size w w' := by
  obtain ⟨j0, hjf, hy0, hy1, hy2⟩ := info_parts infoInt
  obtain ⟨dg, so, hdg, hso, hle, hh⟩ := h.stand v hv
  have hn := h.tn.nd v hv
  have hls := hid (fun y (hy : Below w.heap.size w y) => least_ok (h.more hy) v dg so hv hdg hso)
  obtain ⟨l, hl⟩ : ∃ l, R v = l := ⟨_, rfl⟩
  have hlow : ∀ x, x ∈ l → x ≤ 2097152 := fun x hx => by have := low32 h hv (hl ▸ hx); omega
  obtain ⟨dv, sv, K, M, D, S, h1, h2⟩ := h
  have hon : ∀ x, x ∈ l → D x = ⟨nx l x, pv l x, (v : Int)⟩ := fun x hx => by rw [← hl]; exact h2.on v x hv (hl ▸ hx)
  rw [hl] at hn hdg hso hls ⊢
  rw [← hdg]
  have hall := hid (And.intro h1 (And.intro hon hlow))
  replace hn := hid hn
  replace hdg := hid hdg
  replace hh := hid hh
  clear h1 h2 hl hon hlow hso
  go_enter Tryz.func28, Tryz.ntmps28
  go_wp2_with fail
  refine hh.out.mono ?_
  rintro x w1 ⟨rfl, b1⟩
  obtain ⟨q0, q1, _, _⟩ := blk2' (heap_alloc_new w1 (.cells #[.int .i32 (dg : Int), .int .i32 (so : Int)] 110))
  have hb2 := b1.alloc b1.size (.cells #[.int .i32 (dg : Int), .int .i32 (so : Int)] 110)
  have hs1 := b1.size
  obtain ⟨w2, hw2⟩ : ∃ w2, w1.alloc (.cells #[.int .i32 (dg : Int), .int .i32 (so : Int)] 110) = w2 := ⟨_, rfl⟩
  have hsz : w.heap.size ≤ w2.heap.size := hb2.size |> fun h => by rw [hw2] at h; exact h
  rw [hw2] at q0 q1 hb2
  have hq0 : Hid (w2.heap[w1.heap.size]? = some (.cells #[.int .i32 (dg : Int), .int .i32 (so : Int)] 110 (0, 0))) := by rw [← hw2]; exact hid (heap_alloc_new _ _)
  replace hb2 := hid hb2
  clear hh
  go_wp2_with (first | (rw [hw2]) | (at_make; refine wpList_make_full _ rfl (.tmp 21) (.tmp 21) 30 rfl w.heap.size 3 j0 (.int .i64 0) 1 Tryz.underlying30 hjf hy0 hy1 .i32 .i32 _ _ dg rfl rfl rfl rfl (by rw [hy2]; omega) (by unfold maxLen; omega) hsz ?_; intro w3 hown hgrow; refine Hid.out ?_))
  have hb3 := hb2.out.grown hgrow hsz (fun k hk => by cases hk)
  have hq3 := (hgrow.block w1.heap.size (Array.getElem?_eq_some_iff.1 hq0.out).1 (by simp)).trans hq0.out
  clear q0 q1 hw2 hq0
  obtain ⟨q0, q1, _, _⟩ := blk2' hq3
  have hown' : w3.ownsRow w.heap.size 3 1 (.slice (some ⟨w2.heap.size, 0, none⟩) dg dg) dg (ncs ((lf l).take 0) ++ List.replicate (dg - 0) (.int .i64 0)) := by
    have e1 : (madeCells (Value.int IntKind.i64 0).cells (dg * 1)).toList = List.replicate dg (.int .i64 0) := by
      rw [Nat.mul_one]
      show (madeCells #[Value.int .i64 0] dg).toList = _
      rw [toList_madeCells_one]
    rw [e1] at hown
    simpa [ncs] using hown
  have hsz3 := hb3.size
  replace hb3 := hid hb3
  replace hown' := hid hown'
  clear hown hgrow hq3 b1 hb2
  refine hid ?_
  go_wp2_with fail
  refine (hls.out w3 hb3.out).mono ?_
  rintro x w4 ⟨x0, rfl, hx0, b4⟩
  have hb4 : Hid (Below w.heap.size w w4) := hb3.out.trans (b4.mono hsz3)
  have hown4 : Hid (w4.ownsRow w.heap.size 3 1 (.slice (some ⟨w2.heap.size, 0, none⟩) dg dg) dg (ncs ((lf l).take 0) ++ List.replicate (dg - 0) (.int .i64 0))) := ownsRow_below' hown'.out b4
  have hget : Hid (∀ k, k < dg → (lf l)[k]? = some (itn (nx l) k x0) ∧ itn (nx l) k x0 ∈ l) := fun k hk => by
    have hne : l ≠ [] := fun e => by have := hdg.out; rw [e] at this; simp at this; omega
    have e1 := hx0 hne
    have hm := least0_mem l hne
    rw [e1]
    exact ⟨itn_get hn.out hm k (by rw [← hdg.out]; exact hk), itn_mem hn.out hm k⟩
  have hlen : Hid ((lf l).length = dg) := by unfold lf; rw [rot_len]; exact hid hdg.out.symm
  clear q0 q1 b4 hown' hb3 hx0 hls
  go_wp2_with fail
  go_loopw [9, 10, 28] (fun s9 _ s28 wr => ∃ j x : Nat, j ≤ dg ∧ s28 = .int .i64 (j : Int) ∧ s9 = .int .i32 (x : Int) ∧ Hid (x = itn (nx l) j x0 ∧ wr.ownsRow w.heap.size 3 1 (.slice (some ⟨w2.heap.size, 0, none⟩) dg dg) dg (ncs ((lf l).take j) ++ List.replicate (dg - j) (.int .i64 0)) ∧ Below w.heap.size w wr)) (fun _ _ s28 _ => dg - (intOf s28).toNat)
  case atStart => exact ⟨0, x0, by omega, by go_num, rfl, rfl, hown4.out, hb4.out⟩
  case round =>
    obtain ⟨j, x, hj, rfl, rfl, hst⟩ := hrel
    clear hown4 hb4
    rcases Nat.lt_or_ge j dg with hlt | hge
    · obtain ⟨hxe, hrow, hbw⟩ := hst.out
      obtain ⟨hgj, hxm⟩ := hget.out j hlt
      rw [← hxe] at hgj hxm
      have hxl := hall.out.2.2 x hxm
      have hox := hall.out.2.1 x hxm
      have hjl : (ncs ((lf l).take j)).length = j := by rw [ncs_length, List.length_take, hlen.out]; omega
      obtain ⟨s1, s2⟩ := hrow.stored j (.int .i64 (x : Int))
      rw [set_mid _ _ _ j dg hjl hlt] at s1
      have hfz := hrow.frozenAt j
      have hold := (hrow.cellAt j (by omega)).trans (get_mid _ _ j dg hjl hlt)
      have htk : ncs ((lf l).take j) ++ [.int .i64 (x : Int)] = ncs ((lf l).take (j + 1)) := by
        rw [List.take_add_one, hgj, ncs_append]; rfl
      rw [htk] at s1
      have hb5 : Below w.heap.size w (wr.setCell ⟨w2.heap.size, j, none⟩ (.int .i64 (x : Int))) := hbw.grown s2 hbw.size (fun k hk => (hrow.lt k hk).1)
      have hm := hall.out.1.more hb5
      have hxK : x < K := hm.dlt (by rw [hox]; simp only []; omega)
      obtain ⟨g, cap, rfl, hc1, hc2⟩ := own_form hm.da (by omega)
      obtain ⟨a0, _, _⟩ := hm.dat hxK
      rw [hox] at a0
      simp only [] at a0
      have c2 := hm.c2
      have i1 : (0 : Int) ≤ (x : Int) := by omega
      have i2 : (x : Int) < (K : Int) := by omega
      have i3 : (0 : Int) ≤ (j : Int) := by omega
      have i4 : (j : Int) < (dg : Int) := by omega
      have hnx : Hid (nx l x = itn (nx l) (j + 1) x0) := by rw [hxe]; exact hid rfl
      generalize nx l x = z at a0 hnx
      have fin : Hid (wr.setCell ⟨w2.heap.size, j, none⟩ (.int .i64 (x : Int)) = wr.setCell ⟨w2.heap.size, j, none⟩ (.int .i64 (x : Int))) := rfl
      replace s1 := hid s1
      replace hb5 := hid hb5
      clear hst hrow hbw hgj hxm hox hjl s2 htk hm hxe
      go_upto_region 10 with fail
      generalize wr.setCell ⟨w2.heap.size, j, none⟩ (.int .i64 (x : Int)) = wt at s1 hb5 a0 c2 ⊢
      clear fin hfz hold
      go_wp2_with fail
      go_roundw
      case rel => exact ⟨j + 1, z, by omega, by go_num, rfl, hnx.out, s1.out, hb5.out⟩
      case measure => simp [intOf]; omega
    · obtain rfl : j = dg := by omega
      have hfin : Hid (wr.ownsRow w.heap.size 3 1 (.slice (some ⟨w2.heap.size, 0, none⟩) j j) j (ncs (lf l))) := by
        have h1 := hst.out.2.1
        rw [List.take_of_length_le (by rw [hlen.out]; exact Nat.le_refl _), Nat.sub_self] at h1
        exact hid (by simpa using h1)
      have hb := hid hst.out.2.2
      clear hst
      go_wp2_with fail
      go_ret2
      exact ⟨_, rfl, hfin.out, hb.out⟩

set_option maxRecDepth 100000 in
set_option maxHeartbeats 1000000 in
theorem sizes_nil (w : World) : Calls Tryz.prog 36 #[.pointer none] w fun x w' => x = .returned (.tuple #[.int .i64 0, .int .i64 0]) ∧ w = w' := by
  go_enter Tryz.func36, Tryz.ntmps36
  go_wp2_with fail
  go_ret2
  exact ⟨rfl, rfl⟩

set_option maxRecDepth 100000 in
set_option maxHeartbeats 1000000 in
theorem sizes_ok (h : TA w lo tb V E R) : Calls Tryz.prog 36 #[.pointer (some ⟨tb, 0, none⟩)] w fun x w' => x = .returned (.tuple #[.int .i64 (V : Int), .int .i64 (E : Int)]) ∧ ∃ m, w' = w.drewN m := by
  obtain ⟨dv, sv, K, M, D, S, h1, h2⟩ := h
  have c0 := h1.c0
  have c1 := h1.c1
  clear h1 h2
  go_enter Tryz.func36, Tryz.ntmps36
  go_wp2_with fail
  go_quiet (fail)
  go_wp2_with fail
  go_ret2
  exact ⟨rfl, _, rfl⟩

theorem pair_at (a b : Int) (w : World) : (Instr.index 23 (.agg #[.int .i64 a, .int .i64 b]) (.int .i64 0)).run Tryz.prog w = .ok (.int .i64 a) w ∧ (Instr.index 23 (.agg #[.int .i64 a, .int .i64 b]) (.int .i64 1)).run Tryz.prog w = .ok (.int .i64 b) w := by
  obtain ⟨i0, hif, hz0, hz1, hz2⟩ := info_parts infoInt
  constructor <;> simp [Instr.index, asIntOf, run_underlying Tryz.underlying23, part, Go.sizeOf, typeInfo, hif, hz1, isAgg, run_underlying Tryz.underlying3, go_sem]
end

end Go.Proofs.YtghpjljnbdjmaaaGreatDoor

namespace Go.Proofs.YtghpjljnbdjmaaaGreatDoor
open Go.RowKit
set_option linter.unusedVariables false

set_option maxRecDepth 100000 in
set_option maxHeartbeats 1000000 in
theorem new_bad (v e : Int) (w : World) (h : ¬ (1 ≤ v ∧ v ≤ 1048576 ∧ 1 ≤ e ∧ e ≤ 1048576)) : Calls Tryz.prog 30 #[.int .i64 v, .int .i64 e] w fun x w' => x = .returned (.tuple #[.pointer none, .iface 88 (.int .i64 1)]) ∧ w = w' := by
  have hp := pair_at v e
  replace h := hid h
  go_enter Tryz.func30, Tryz.ntmps30
  go_wp2_with fail
  go_loop [7, 11] (fun _ s11 => ∃ j : Nat, j ≤ 2 ∧ s11 = .int .i64 (j : Int) ∧ Hid ((1 ≤ j → 1 ≤ v ∧ v ≤ 1048576) ∧ (2 ≤ j → 1 ≤ e ∧ e ≤ 1048576))) (fun _ s11 => 2 - (intOf s11).toNat)
  case atStart => exact ⟨0, by omega, by go_num, fun h => by omega, fun h => by omega⟩
  case round =>
    obtain ⟨j, hj, rfl, hst⟩ := hrel
    have hj3 : j = 0 ∨ j = 1 ∨ j = 2 := by omega
    rcases hj3 with rfl | rfl | rfl
    · have hi0 := (hp w).1
      by_cases h1 : v < 1
      · have t1 : decide (v < 1) = true := decide_eq_true h1
        go_wp2_with fail
        go_ret2
        exact ⟨rfl, rfl⟩
      · have t1 : decide (v < 1) = false := decide_eq_false h1
        by_cases h2 : 1048576 < v
        · have t2 : decide (1048576 < v) = true := decide_eq_true h2
          go_wp2_with fail
          go_ret2
          exact ⟨rfl, rfl⟩
        · have t2 : decide (1048576 < v) = false := decide_eq_false h2
          go_wp2_with fail
          go_round
          case rel => exact ⟨1, by omega, by go_num, fun _ => by omega, fun h => by omega⟩
          case measure => simp [intOf]
    · have hi0 := (hp w).2
      by_cases h1 : e < 1
      · have t1 : decide (e < 1) = true := decide_eq_true h1
        go_wp2_with fail
        go_ret2
        exact ⟨rfl, rfl⟩
      · have t1 : decide (e < 1) = false := decide_eq_false h1
        by_cases h2 : 1048576 < e
        · have t2 : decide (1048576 < e) = true := decide_eq_true h2
          go_wp2_with fail
          go_ret2
          exact ⟨rfl, rfl⟩
        · exact absurd ⟨(hst.out.1 (by omega)).1, (hst.out.1 (by omega)).2, by omega, by omega⟩ h.out
    · exact absurd ⟨(hst.out.1 (by omega)).1, (hst.out.1 (by omega)).2, (hst.out.2 (by omega)).1, (hst.out.2 (by omega)).2⟩ h.out

set_option maxRecDepth 100000 in
set_option maxHeartbeats 1000000 in
theorem new_ok (V E : Nat) (w : World) (h1 : 1 ≤ V) (h2 : V ≤ 1048576) (h3 : 1 ≤ E) (h4 : E ≤ 1048576) : Calls Tryz.prog 30 #[.int .i64 (V : Int), .int .i64 (E : Int)] w fun x w' => x = .returned (.tuple #[.pointer (some ⟨w.heap.size, 0, none⟩), .nilIface]) ∧ TA w' w.heap.size w.heap.size V E (fun _ => []) ∧ Below w.heap.size w w' := by
  have hp := pair_at (V : Int) (E : Int)
  have t1 : decide ((V : Int) < 1) = false := decide_eq_false (by omega)
  have t2 : decide (1048576 < (V : Int)) = false := decide_eq_false (by omega)
  have t3 : decide ((E : Int) < 1) = false := decide_eq_false (by omega)
  have t4 : decide (1048576 < (E : Int)) = false := decide_eq_false (by omega)
  go_enter Tryz.func30, Tryz.ntmps30
  go_wp2_with fail
  go_loop [7, 11] (fun _ s11 => ∃ j : Nat, j ≤ 2 ∧ s11 = .int .i64 (j : Int)) (fun _ s11 => 2 - (intOf s11).toNat)
  case atStart => exact ⟨0, by omega, by go_num⟩
  case round =>
    obtain ⟨j, hj, rfl⟩ := hrel
    have hj3 : j = 0 ∨ j = 1 ∨ j = 2 := by omega
    rcases hj3 with rfl | rfl | rfl
    · have hi0 := (hp w).1
      go_wp2_with fail
      go_round
      case rel => exact ⟨1, by omega, by go_num⟩
      case measure => simp [intOf]
    · have hi0 := (hp w).2
      go_wp2_with fail
      go_round
      case rel => exact ⟨2, by omega, by go_num⟩
      case measure => simp [intOf]
    · go_wp2_with fail
      go_ret2
      refine ⟨rfl, ⟨.slice none 0 0, .slice none 0 0, 0, 0, fun _ => nw, fun _ => sd0, ⟨heap_alloc_new _ _, World.ownsRow_nil _ _ _ _, World.ownsRow_nil _ _ _ _, fun _ _ => rfl, fun _ _ => rfl, Nat.le_refl _, Nat.zero_le _, Nat.zero_le _, h2, h4⟩, Tt.new V E⟩, (Below.refl _ _).alloc (Nat.le_refl _) _⟩

section
variable {w : World} {lo tb V E : Nat} {R : Nat → List Nat}

theorem at_any (h : TA w lo tb V E R) (b : Int) : ∃ (n p : Nat) (o : Int), (∀ y, Below w.heap.size w y → Calls Tryz.prog 91 #[.pointer (some ⟨tb, 0, none⟩), .int .i64 b] y fun e w' => e = .returned (.agg #[.int .i32 (n : Int), .int .i32 (p : Int), .int .i32 o]) ∧ Below y.heap.size y w') ∧ (∀ u, u < V → (o = (u : Int) ↔ ∃ k : Nat, b = (k : Int) ∧ k ∈ R u)) ∧ -1 ≤ o ∧ o ≤ 1048576 ∧ (o = -1 ↔ ¬ ∃ k : Nat, b = (k : Int) ∧ In V R k) := by
  have hV := h.hV
  obtain ⟨dv, sv, K, M, D, S, h1, h2⟩ := h
  by_cases hb : b < 0
  · refine ⟨0, 0, -1, fun y hy => at_none b (h1.more hy) (.inl hb), fun u hu => ⟨fun e => by omega, fun ⟨k, e, _⟩ => by omega⟩, by omega, by omega, ⟨fun _ => fun ⟨k, e, _⟩ => by omega, fun _ => rfl⟩⟩
  · obtain ⟨k, rfl⟩ : ∃ k : Nat, b = (k : Int) := ⟨b.toNat, by omega⟩
    refine ⟨(D k).nx, (D k).pv, (D k).og, fun y hy => at_ok k (h1.more hy), fun u hu => ?_, ?_, ?_, ?_⟩
    · rw [h2.og u k hu]
      refine ⟨fun hm => ⟨k, rfl, hm⟩, fun ⟨k', e, hm⟩ => ?_⟩
      obtain rfl : k = k' := by omega
      exact hm
    · by_cases hi : In V R k
      · obtain ⟨u, hu, hm⟩ := hi
        rw [h2.on u k hu hm]; simp only []; omega
      · rw [h2.off k hi]; omega
    · by_cases hi : In V R k
      · obtain ⟨u, hu, hm⟩ := hi
        rw [h2.on u k hu hm]; simp only []; omega
      · rw [h2.off k hi]; omega
    · constructor
      · rintro e ⟨k', e', hi⟩
        obtain rfl : k = k' := by omega
        exact (h2.laid k).2 hi e
      · intro hn
        exact h2.off k (fun hi => hn ⟨k, rfl, hi⟩)

set_option maxRecDepth 100000 in
set_option maxHeartbeats 1000000 in
theorem check_nil (a b : Int) (w : World) : Calls Tryz.prog 63 #[.pointer none, .agg #[.int .i64 a, .int .i64 b]] w fun x w' => x = .returned (.iface 88 (.int .i64 1)) ∧ Below w.heap.size w w' := by
  have hh := hid (fun y => degree_nil a y)
  go_enter Tryz.func63, Tryz.ntmps63
  go_wp2_with fail
  refine (hh.out _).mono ?_
  rintro x w1 ⟨rfl, b1⟩
  have hb := hid ((balloc w _).trans (b1.mono (by simp)))
  clear b1
  go_wp2_with fail
  go_ret
  exact ⟨rfl, hb.out⟩

set_option maxRecDepth 100000 in
set_option maxHeartbeats 1000000 in
theorem check_range (h : TA w lo tb V E R) (a b : Int) (ha : a < 0 ∨ (V : Int) ≤ a) : Calls Tryz.prog 63 #[.pointer (some ⟨tb, 0, none⟩), .agg #[.int .i64 a, .int .i64 b]] w fun x w' => x = .returned (.iface 88 (.int .i64 12)) ∧ Below w.heap.size w w' := by
  have hh := hid (fun y (hy : Below w.heap.size w y) => degree_range (h.more hy) a ha)
  clear h ha
  go_enter Tryz.func63, Tryz.ntmps63
  go_wp2_with fail
  refine (hh.out _ (balloc _ _)).mono ?_
  rintro x w1 ⟨rfl, b1⟩
  have hb := hid ((balloc w _).trans (b1.mono (by simp)))
  clear b1
  go_wp2_with fail
  go_ret
  exact ⟨rfl, hb.out⟩

set_option maxRecDepth 100000 in
set_option maxHeartbeats 2000000 in
theorem check_in (h : TA w lo tb V E R) (u : Nat) (b : Int) (r : Value) (hu : u < V) (hr : (r = .nilIface ∧ Co V R (u : Int) b) ∨ (r = .iface 88 (.int .i64 13) ∧ ¬ Co V R (u : Int) b)) : Calls Tryz.prog 63 #[.pointer (some ⟨tb, 0, none⟩), .agg #[.int .i64 (u : Int), .int .i64 b]] w fun x w' => x = .returned r ∧ Below w.heap.size w w' := by
  have hh := hid (fun y (hy : Below w.heap.size w y) => degree_ok (h.more hy) u hu)
  obtain ⟨n, p, o, hat, ho, ho1, ho2, ho3⟩ := at_any h b
  clear ho3
  replace hat := hid hat
  have hou := ho u hu
  have hV := h.hV
  have hq := hid (heap_alloc_new w (.cells #[.int .i64 (u : Int), .int .i64 b] 60))
  have hb := hid (balloc w (.cells #[.int .i64 (u : Int), .int .i64 b] 60))
  obtain ⟨w1, hw1⟩ : ∃ w1, w.alloc (.cells #[.int .i64 (u : Int), .int .i64 b] 60) = w1 := ⟨_, rfl⟩
  rw [hw1] at hq hb
  obtain ⟨m, hm⟩ : ∃ m, m = (R u).length := ⟨_, rfl⟩
  rw [← hm] at hh
  have hlen : m ≤ 2097152 := by have := h.tn.len hu; have := h.hE; omega
  have hm0 : Hid (m = 0 ↔ R u = []) := by rw [hm]; exact hid List.length_eq_zero_iff
  replace hw1 := hid hw1
  clear h ho hm
  have hco : Hid (Co V R (u : Int) b ↔ (b = -1 ∧ m = 0) ∨ o = (u : Int)) := by
    refine hid ⟨?_, ?_⟩
    · rintro ⟨u', e, _, h1 | ⟨d, h1, h2⟩⟩
      · obtain rfl : u = u' := by omega
        exact .inl ⟨h1.1, hm0.out.2 h1.2⟩
      · obtain rfl : u = u' := by omega
        exact .inr (hou.2 ⟨d, h1, h2⟩)
    · rintro (⟨h1, h2⟩ | h1)
      · exact ⟨u, rfl, hu, .inl ⟨h1, hm0.out.1 h2⟩⟩
      · exact ⟨u, rfl, hu, .inr (hou.1 h1)⟩
  have hfd : ∀ w : World, (Instr.field 106 (.agg #[.int .i32 (n : Int), .int .i32 (p : Int), .int .i32 o]) 2).run Tryz.prog w = .ok (.int .i32 o) w := fun _ => by kernel_rfl
  replace hou := hid hou
  by_cases hbm : b = -1 ∧ m = 0
  · obtain ⟨rfl, rfl⟩ := hbm
    have hrr : r = .nilIface := by
      rcases hr with ⟨h1, _⟩ | ⟨_, h2⟩
      · exact h1
      · exact absurd (hco.out.2 (.inl ⟨rfl, rfl⟩)) h2
    subst hrr
    clear hr hco hm0
    go_enter Tryz.func63, Tryz.ntmps63
    go_wp2_with fail
    rw [hw1.out]
    refine (hh.out w1 hb.out).mono ?_
    rintro x w2 ⟨rfl, b2⟩
    obtain ⟨k0, k1, _, _⟩ := blk2' ((b2.block _ (Array.getElem?_eq_some_iff.1 hq.out).1).trans hq.out)
    have hb2 := hid (hb.out.trans (b2.mono hb.out.size))
    clear b2
    go_wp2_with fail
    go_ret
    exact ⟨rfl, hb2.out⟩
  · have hgo : ((b = -1 ∧ ((m : Int) == 0) = false ∧ ¬ (m : Int) = 0 ∧ o ≠ (u : Int)) ∨ ((b == -1) = false)) := by
      by_cases e : b = -1
      · have h0 : m ≠ 0 := fun e2 => hbm ⟨e, e2⟩
        exact .inl ⟨e, by simp; omega, by omega, fun e2 => by obtain ⟨k, hk, _⟩ := hou.out.1 e2; omega⟩
      · exact .inr (by simpa using e)
    have hor : (o = (u : Int) ∧ r = .nilIface) ∨ ((o != (u : Int)) = true ∧ (o == (u : Int)) = false ∧ r = .iface 88 (.int .i64 13)) := by
      by_cases e : o = (u : Int)
      · rcases hr with ⟨h1, _⟩ | ⟨_, h2⟩
        · exact .inl ⟨e, h1⟩
        · exact absurd (hco.out.2 (.inr e)) h2
      · rcases hr with ⟨_, h2⟩ | ⟨h1, _⟩
        · exact absurd (hco.out.1 h2) (by rintro (h | h); exact hbm h; exact e h)
        · exact .inr ⟨by simpa using e, by simpa using e, h1⟩
    clear hr hco hbm hm0 hou
    have hwo : IntKind.i64.wrap o = o := by rw [IntKind.wrap_i64]; omega
    rcases hgo with ⟨rfl, g1, g2, hne⟩ | g1
    · rcases hor with ⟨p1, _⟩ | ⟨p1, p2, rfl⟩
      · exact absurd p1 hne
      · clear hne
        go_enter Tryz.func63, Tryz.ntmps63
        go_wp2_with fail
        rw [hw1.out]
        refine (hh.out w1 hb.out).mono ?_
        rintro x w2 ⟨rfl, b2⟩
        have hq2 := hid ((b2.block _ (Array.getElem?_eq_some_iff.1 hq.out).1).trans hq.out)
        obtain ⟨k0, k1, _, _⟩ := blk2' hq2.out
        have hb2 := hid (hb.out.trans (b2.mono hb.out.size))
        clear b2
        go_wp2_with fail
        go_region_held3 (fun y => y.cell? ⟨w.heap.size, 0, none⟩ = some (.int .i64 (u : Int)) ∧ y.cell? ⟨w.heap.size, 1, none⟩ = some (.int .i64 (-1))) (first | exact ⟨k0, k1⟩ | exact ⟨j0, j1⟩ | go_keep) ((go_at_call 91; refine (hat.out _ (hb2.out.drew)).mono ?_; rintro e w3 ⟨rfl, b3⟩; have hb3 := hid (hb2.out.drew.trans (b3.mono hb2.out.size)); obtain ⟨j0, j1, _, _⟩ := blk2' ((b3.block _ (Array.getElem?_eq_some_iff.1 hq2.out).1).trans hq2.out); clear b3))
        go_wp2_with fail
        go_ret
        exact ⟨rfl, hb3.out⟩
    · rcases hor with ⟨rfl, rfl⟩ | ⟨p1, p2, rfl⟩
      · skip
        go_enter Tryz.func63, Tryz.ntmps63
        go_wp2_with fail
        rw [hw1.out]
        refine (hh.out w1 hb.out).mono ?_
        rintro x w2 ⟨rfl, b2⟩
        have hq2 := hid ((b2.block _ (Array.getElem?_eq_some_iff.1 hq.out).1).trans hq.out)
        obtain ⟨k0, k1, _, _⟩ := blk2' hq2.out
        have hb2 := hid (hb.out.trans (b2.mono hb.out.size))
        clear b2
        go_wp2_with fail
        go_region_held3 (fun y => y.cell? ⟨w.heap.size, 0, none⟩ = some (.int .i64 (u : Int)) ∧ y.cell? ⟨w.heap.size, 1, none⟩ = some (.int .i64 b)) (first | exact ⟨k0, k1⟩ | exact ⟨j0, j1⟩ | go_keep) ((go_at_call 91; refine (hat.out _ (hb2.out.drew)).mono ?_; rintro e w3 ⟨rfl, b3⟩; have hb3 := hid (hb2.out.drew.trans (b3.mono hb2.out.size)); obtain ⟨j0, j1, _, _⟩ := blk2' ((b3.block _ (Array.getElem?_eq_some_iff.1 hq2.out).1).trans hq2.out); clear b3))
        go_wp2_with fail
        go_ret
        exact ⟨rfl, hb3.out⟩
      · skip
        go_enter Tryz.func63, Tryz.ntmps63
        go_wp2_with fail
        rw [hw1.out]
        refine (hh.out w1 hb.out).mono ?_
        rintro x w2 ⟨rfl, b2⟩
        have hq2 := hid ((b2.block _ (Array.getElem?_eq_some_iff.1 hq.out).1).trans hq.out)
        obtain ⟨k0, k1, _, _⟩ := blk2' hq2.out
        have hb2 := hid (hb.out.trans (b2.mono hb.out.size))
        clear b2
        go_wp2_with fail
        go_region_held3 (fun y => y.cell? ⟨w.heap.size, 0, none⟩ = some (.int .i64 (u : Int)) ∧ y.cell? ⟨w.heap.size, 1, none⟩ = some (.int .i64 b)) (first | exact ⟨k0, k1⟩ | exact ⟨j0, j1⟩ | go_keep) ((go_at_call 91; refine (hat.out _ (hb2.out.drew)).mono ?_; rintro e w3 ⟨rfl, b3⟩; have hb3 := hid (hb2.out.drew.trans (b3.mono hb2.out.size)); obtain ⟨j0, j1, _, _⟩ := blk2' ((b3.block _ (Array.getElem?_eq_some_iff.1 hq2.out).1).trans hq2.out); clear b3))
        go_wp2_with fail
        go_ret
        exact ⟨rfl, hb3.out⟩
end

end Go.Proofs.YtghpjljnbdjmaaaGreatDoor

namespace Go.Proofs.YtghpjljnbdjmaaaGreatDoor
open Go.RowKit
set_option linter.unusedVariables false

section
variable {w : World} {lo tb V E : Nat} {R : Nat → List Nat}

theorem TA.take (h : TA w lo tb V E R) (d v : Nat) (hv : v < V) (hd : d ∈ R v) : Calls Tryz.prog 60 #[.pointer (some ⟨tb, 0, none⟩), .int .i64 (d : Int)] w fun e w' => e = .returned (.tuple #[]) ∧ TA w' lo tb V E (outR R d) ∧ Kp lo w w' := by
  have hlen := h.tn.len hv
  have hEb := h.hE
  have hn := h.tn.nd v hv
  obtain ⟨dv, sv, K, M, D, S, h1, h2⟩ := h
  have og : ∀ x, x ∈ R v → x < K := fun x hx => h1.dlt (by rw [h2.on v x hv hx]; simp only []; omega)
  have hdeg := h2.deg v hv
  have hpos := List.length_pos_of_mem hd
  have hvM : v < M := by
    rcases Nat.lt_or_ge v M with q | q
    · exact q
    · have := h1.rs v q
      rw [this] at hdeg
      simp [sd0] at hdeg
      omega
  refine (take_ok d v (nx (R v) d) (pv (R v) d) h1 (og d hd) (h2.on v d hv hd) (og _ (nx_mem hd)) (og _ (pv_mem hn hd).1) hvM (by omega) (by omega)).mono ?_
  rintro e w' ⟨rfl, K', M', dv', sv', g1, g2⟩
  exact ⟨rfl, ⟨dv', sv', K', M', _, _, g1, h2.take hv hd⟩, g2⟩

theorem TA.putc (h : TA w lo tb V E R) (d v : Nat) (b : Int) (hc : Co V R (v : Int) b) (hd : d < 2 * E) (hn : ¬ In V R d) : Calls Tryz.prog 64 #[.pointer (some ⟨tb, 0, none⟩), .int .i64 (d : Int), .agg #[.int .i64 (v : Int), .int .i64 b]] w fun e w' => e = .returned (.tuple #[]) ∧ TA w' lo tb V E (putR R v (co b) d) ∧ Kp lo w w' := by
  have hEb := h.hE
  obtain ⟨u, e, hu, hcc⟩ := hc
  obtain rfl : v = u := by omega
  have hlen := h.tn.len hu
  obtain ⟨dv, sv, K, M, D, S, h1, h2⟩ := h
  have hdeg := h2.deg v hu
  rcases hcc with ⟨rfl, h3⟩ | ⟨k, rfl, h3⟩
  · refine (put_ok d v d d (-1) h1 hd hu (by omega) (.inl ⟨rfl, rfl, rfl⟩)).mono ?_
    rintro e w' ⟨rfl, K', M', dv', sv', g1, g2⟩
    exact ⟨rfl, ⟨dv', sv', K', M', _, _, g1, h2.alone hu h3 hn hd⟩, g2⟩
  · have hon := h2.on v k hu h3
    have hon2 := h2.on v _ hu (nx_mem h3)
    refine (put_ok d v (nx (R v) k) k (k : Int) h1 hd hu (by omega) (.inr ⟨rfl, by rw [hon], by rw [hon]; simp only []; omega, by rw [hon2]; simp only []; omega⟩)).mono ?_
    rintro e w' ⟨rfl, K', M', dv', sv', g1, g2⟩
    rw [co_some]
    exact ⟨rfl, ⟨dv', sv', K', M', _, _, g1, h2.put hu h3 hn hd⟩, g2⟩

set_option maxRecDepth 100000 in
set_option maxHeartbeats 1000000 in
theorem lift_nil (e : Int) (w : World) : Calls Tryz.prog 27 #[.pointer none, .int .i64 e] w fun x w' => x = .returned (.iface 88 (.int .i64 1)) ∧ w = w' := by
  have hh := hid (holds_nil e w)
  go_enter Tryz.func27, Tryz.ntmps27
  go_wp2_with fail
  refine hh.out.mono ?_
  rintro x w1 ⟨rfl, rfl⟩
  go_wp2_with fail
  go_ret
  exact ⟨rfl, rfl⟩

set_option maxRecDepth 100000 in
set_option maxHeartbeats 1000000 in
theorem lift_range (h : TA w lo tb V E R) (e : Int) (he : e < 0 ∨ (E : Int) ≤ e) : Calls Tryz.prog 27 #[.pointer (some ⟨tb, 0, none⟩), .int .i64 e] w fun x w' => x = .returned (.iface 88 (.int .i64 12)) ∧ w = w' := by
  obtain ⟨dv, sv, K, M, D, S, h1, h2⟩ := h
  have hh := hid (holds_range e h1 he)
  clear h1 h2 he
  go_enter Tryz.func27, Tryz.ntmps27
  go_wp2_with fail
  refine hh.out.mono ?_
  rintro x w1 ⟨rfl, rfl⟩
  go_wp2_with fail
  go_ret
  exact ⟨rfl, rfl⟩

set_option maxRecDepth 100000 in
set_option maxHeartbeats 1000000 in
theorem lift_stale (h : TA w lo tb V E R) (e : Nat) (he : e < E) (hn : ¬ In V R (2 * e)) : Calls Tryz.prog 27 #[.pointer (some ⟨tb, 0, none⟩), .int .i64 (e : Int)] w fun x w' => x = .returned (.iface 88 (.int .i64 13)) ∧ Below w.heap.size w w' := by
  obtain ⟨dv, sv, K, M, D, S, h1, h2⟩ := h
  have hh := hid (holds_ok e false h1 he (fun q => by cases q) (fun _ => h2.off _ hn))
  clear h1 h2 he hn
  go_enter Tryz.func27, Tryz.ntmps27
  go_wp2_with fail
  refine hh.out.mono ?_
  rintro x w1 ⟨rfl, b1⟩
  replace b1 := hid b1
  go_wp2_with fail
  go_ret
  exact ⟨rfl, b1.out⟩

set_option maxRecDepth 100000 in
set_option maxHeartbeats 1000000 in
theorem lift_ok (h : TA w lo tb V E R) (e : Nat) (he : e < E) (hi : In V R (2 * e)) (hj : In V R (2 * e + 1)) : Calls Tryz.prog 27 #[.pointer (some ⟨tb, 0, none⟩), .int .i64 (e : Int)] w fun x w' => x = .returned .nilIface ∧ TA w' lo tb V E (liftR R e) ∧ Kp lo w w' := by
  have hEb := h.hE
  have ht := h.tn
  have hs := hid (fun y => sides_ok e y (by omega))
  have h0 := hid h
  obtain ⟨dv, sv, K, M, D, S, h1, h2⟩ := h
  have hh := hid (holds_ok e true h1 he (fun _ => (h2.laid _).2 hi) (fun q => by cases q))
  obtain ⟨v, hv, hm⟩ := hj
  have h3 := hid (fun y (hy : TA y lo tb V E R) => hy.take (2 * e + 1) v hv hm)
  obtain ⟨u, hu, hm2⟩ := hi
  have hm3 : 2 * e ∈ outR R (2 * e + 1) u := (del_mem (ht.nd u hu)).2 ⟨hm2, by omega⟩
  have h4 := hid (fun y (hy : TA y lo tb V E (outR R (2 * e + 1))) => hy.take (2 * e) u hu hm3)
  have hfin := hid (out_out R (2 * e + 1) (2 * e))
  clear h1 h2 he hm hm2 hm3 ht
  go_enter Tryz.func27, Tryz.ntmps27
  go_wp2_with fail
  refine hh.out.mono ?_
  rintro x w1 ⟨rfl, b1⟩
  replace b1 := hid b1
  go_wp2_with fail
  refine (hs.out w1).mono ?_
  rintro x w1 ⟨rfl, rfl⟩
  go_wp2_with fail
  refine (h3.out _ (h0.out.more b1.out)).mono ?_
  rintro x w2 ⟨rfl, a2, k2⟩
  replace a2 := hid a2
  replace k2 := hid k2
  go_wp2_with fail
  refine (h4.out w2 a2.out).mono ?_
  rintro x w3 ⟨rfl, a3, k3⟩
  rw [hfin.out] at a3
  replace a3 := hid a3
  replace k3 := hid k3
  go_wp2_with fail
  go_ret
  exact ⟨rfl, a3.out, ((Kp.ofBelow b1.out lo).trans k2.out).trans k3.out⟩
end

end Go.Proofs.YtghpjljnbdjmaaaGreatDoor
