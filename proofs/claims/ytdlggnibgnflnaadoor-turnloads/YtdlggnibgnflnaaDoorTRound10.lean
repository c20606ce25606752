/- 'least', 'Degree', 'Round', 'Sizes', 'New', walked. -/
import Derived.Test.YtdlggnibgnflnaaDoorApi10
import Derived.Test.YtdlggnibgnflnaaDoorRound10
namespace Go.Proofs.YtdlggnibgnflnaaDoor
open Go.RowKit
set_option linter.unusedVariables false

theorem itn_mem {l : List Nat} {x : Nat} (hn : l.Nodup) (hx : x ∈ l) : ∀ k, itn (nx l) k x ∈ l
  | 0 => hx
  | k + 1 => nx_mem (itn_mem hn hx k)

theorem itn_all {l : List Nat} {x y : Nat} (hn : l.Nodup) (hx : x ∈ l) (hy : y ∈ l) : ∃ k, k < l.length ∧ itn (nx l) k x = y := by
  obtain ⟨i, hi⟩ := List.getElem?_of_mem (rot_mem (x := x).2 hy)
  have hil := (List.getElem?_eq_some_iff.1 hi).1
  rw [rot_len] at hil
  rw [itn_get hn hx i hil] at hi
  exact ⟨i, hil, Option.some.inj hi⟩

/-- The least of those gone over. -/
def Lt (l : List Nat) (x i y : Nat) : Prop := y ∈ l ∧ ∀ k, k < i → y ≤ itn (nx l) k x

theorem Lt.end_ {l : List Nat} {x y : Nat} (hn : l.Nodup) (hx : x ∈ l) (h : Lt l x l.length y) : y = least0 l := by
  have hne : l ≠ [] := fun e => by rw [e] at hx; simp at hx
  obtain ⟨k, hk, e⟩ := itn_all hn hx (least0_mem l hne)
  have h1 := h.2 k hk
  rw [e] at h1
  have h2 := least0_le l y h.1
  omega

section
variable {w : World} {lo tb V E : Nat} {R : Nat → List Nat}

set_option maxRecDepth 100000 in
set_option maxHeartbeats 2000000 in
theorem least_ok (h : TA w lo tb V E R) (v dg so : Nat) (hv : v < V) (hdg : dg = (R v).length) (hso : R v ≠ [] → so ∈ R v) :
    Calls Tryd.prog 40 #[.pointer (some ⟨tb, 0, none⟩), .agg #[.int .i32 (dg : Int), .int .i32 (so : Int)]] w fun e w' => ∃ x : Nat, e = .returned (.int .i32 (x : Int)) ∧ (R v ≠ [] → x = least0 (R v)) ∧ Below w.heap.size w w' := by
  have hn := h.tn.nd v hv
  have hlen := h.tn.len hv
  have hEb := h.hE
  rw [← hdg] at hlen
  obtain ⟨l, hl⟩ : ∃ l, R v = l := ⟨_, rfl⟩
  have hlow : ∀ x, x ∈ l → x ≤ 2097152 := fun x hx => by have := low32 h hv (hl ▸ hx); omega
  obtain ⟨dv, sv, K, M, D, S, h1, h2⟩ := h
  have hon : ∀ x, x ∈ l → D x = ⟨nx l x, pv l x, (v : Int)⟩ := fun x hx => by rw [← hl]; exact h2.on v x hv (hl ▸ hx)
  rw [hl] at hn hdg hso ⊢
  have hh := hid (And.intro h1 (And.intro hon hlow))
  replace hn := hid hn
  replace hdg := hid hdg
  replace hso := hid hso
  obtain ⟨c0, c1, _, _⟩ := blk2' (heap_alloc_new w (.cells #[.int .i32 (dg : Int), .int .i32 (so : Int)] 84))
  have hb := hid (balloc w (.cells #[.int .i32 (dg : Int), .int .i32 (so : Int)] 84))
  obtain ⟨w1, hw1⟩ : ∃ w1, w.alloc (.cells #[.int .i32 (dg : Int), .int .i32 (so : Int)] 84) = w1 := ⟨_, rfl⟩
  rw [hw1] at c0 c1 hb
  clear h1 h2 hl hon hlow
  go_enter Tryd.func40, Tryd.ntmps40
  go_wp2_with fail
  try rw [hw1]
  go_wp2_with fail
  go_quiet (fail)
  go_wp2_with fail
  clear hw1 c0 c1
  generalize hwq : w1.drewN _ = wq
  replace hb : Hid (Below w.heap.size w wq) := by rw [← hwq]; exact hid (belowN hb.out _)
  clear hwq
  by_cases h0 : dg = 0
  · subst h0
    go_loop [5, 6, 13] (fun _ s6 s13 => s6 = .int .i32 (so : Int) ∧ s13 = .int .i32 0) (fun _ _ _ => 0)
    case atStart => exact ⟨rfl, by go_num⟩
    case round =>
      obtain ⟨rfl, rfl⟩ := hrel
      go_wp2_with fail
      go_ret
      exact ⟨so, rfl, fun hne => absurd (List.eq_nil_of_length_eq_zero hdg.out.symm) hne, hb.out⟩
  · have hsm : Hid (so ∈ l) := hso.out (fun e => by have := hdg.out; rw [e] at this; simp at this; omega)
    go_loop [5, 6, 13] (fun s5 s6 s13 => ∃ i x y : Nat, i ≤ dg ∧ s13 = .int .i32 (i : Int) ∧ s5 = .int .i32 (x : Int) ∧ s6 = .int .i32 (y : Int) ∧ Hid (x = itn (nx l) i so ∧ Lt l so i y)) (fun _ _ s13 => dg - (intOf s13).toNat)
    case atStart => exact ⟨0, so, so, by omega, by go_num, rfl, rfl, rfl, hsm.out, fun k hk => by omega⟩
    case round =>
      obtain ⟨i, x, y, hi, rfl, rfl, rfl, hst⟩ := hrel
      rcases Nat.lt_or_ge i dg with hlt | hge
      · have hxm : x ∈ l := by rw [hst.out.1]; exact itn_mem hn.out hsm.out i
        have hxl := hh.out.2.2 x hxm
        have hyl := hh.out.2.2 y hst.out.2.1
        have hox := hh.out.2.1 x hxm
        have hm := hh.out.1.more hb.out
        have hxK : x < K := hm.dlt (by rw [hox]; simp only []; omega)
        obtain ⟨g, cap, rfl, hc1, hc2⟩ := own_form hm.da (by omega)
        obtain ⟨a0, _, _⟩ := hm.dat hxK
        rw [hox] at a0
        simp only [] at a0
        have c2 := hm.c2
        have i1 : (0 : Int) ≤ (x : Int) := by omega
        have i2 : (x : Int) < (K : Int) := by omega
        have hnx : Hid (nx l x = itn (nx l) (i + 1) so) := by rw [hst.out.1]; exact hid rfl
        have hyx : Hid (∀ z, (z = y ∨ z = x) → z ≤ y → z ≤ x → Lt l so (i + 1) z) := fun z hz h1 h2 => by
          refine ⟨?_, fun k hk => ?_⟩
          · rcases hz with rfl | rfl
            · exact hst.out.2.1
            · exact hxm
          · by_cases e : k = i
            · subst e; rw [← hst.out.1]; exact h2
            · exact Nat.le_trans h1 (hst.out.2.2 k (by omega))
        have t1 : decide ((i : Int) < (dg : Int)) = true := decide_eq_true (by omega)
        clear hm hox hst hxm
        generalize nx l x = z at a0 hnx
        rcases Nat.lt_or_ge x y with hxy | hxy
        · go_wp2_with fail
          go_round
          case rel => exact ⟨i + 1, z, x, by omega, by go_num, rfl, rfl, hnx.out, hyx.out x (.inr rfl) (by omega) (Nat.le_refl _)⟩
          case measure => simp [intOf]; omega
        · go_wp2_with fail
          go_round
          case rel => exact ⟨i + 1, z, y, by omega, by go_num, rfl, rfl, hnx.out, hyx.out y (.inl rfl) (Nat.le_refl _) hxy⟩
          case measure => simp [intOf]; omega
      · obtain rfl : i = dg := by omega
        have t1 : decide ((i : Int) < (i : Int)) = false := decide_eq_false (by omega)
        go_wp2_with fail
        go_ret
        exact ⟨y, rfl, fun _ => (Lt.end_ hn.out hsm.out (by rw [← hdg.out]; exact hst.out.2)), hb.out⟩

set_option maxRecDepth 100000 in
set_option maxHeartbeats 1000000 in
theorem degree_nil (v : Int) (w : World) : Calls Tryd.prog 22 #[.pointer none, .int .i64 v] w fun x w' => x = .returned (.tuple #[.int .i64 0, .iface 65 (.int .i64 1)]) ∧ Below w.heap.size w w' := by
  have hh := hid (stand_nil v w)
  go_enter Tryd.func22, Tryd.ntmps22
  go_wp2_with fail
  refine hh.out.mono ?_
  rintro x w1 ⟨rfl, b1⟩
  have hb := hid (b1.alloc b1.size (.cells #[.int .i32 0, .int .i32 0] 84))
  clear b1
  go_wp2_with fail
  go_ret2
  exact ⟨rfl, hb.out⟩

set_option maxRecDepth 100000 in
set_option maxHeartbeats 1000000 in
theorem degree_range (h : TA w lo tb V E R) (v : Int) (hv : v < 0 ∨ (V : Int) ≤ v) : Calls Tryd.prog 22 #[.pointer (some ⟨tb, 0, none⟩), .int .i64 v] w fun x w' => x = .returned (.tuple #[.int .i64 0, .iface 65 (.int .i64 12)]) ∧ Below w.heap.size w w' := by
  obtain ⟨dv, sv, K, M, D, S, h1, h2⟩ := h
  have hh := hid (stand_range v h1 hv)
  clear h1 h2 hv
  go_enter Tryd.func22, Tryd.ntmps22
  go_wp2_with fail
  refine hh.out.mono ?_
  rintro x w1 ⟨rfl, b1⟩
  have hb := hid (b1.alloc b1.size (.cells #[.int .i32 0, .int .i32 0] 84))
  clear b1
  go_wp2_with fail
  go_ret2
  exact ⟨rfl, hb.out⟩

theorem TA.stand (h : TA w lo tb V E R) (v : Nat) (hv : v < V) : ∃ dg so : Nat, dg = (R v).length ∧ (R v ≠ [] → so ∈ R v) ∧ dg ≤ 2097152 ∧ Calls Tryd.prog 39 #[.pointer (some ⟨tb, 0, none⟩), .int .i64 (v : Int)] w fun e w' => e = .returned (.tuple #[.agg #[.int .i32 (dg : Int), .int .i32 (so : Int)], .nilIface]) ∧ Below w.heap.size w w' := by
  have hl := h.tn.len hv
  have hEb := h.hE
  obtain ⟨dv, sv, K, M, D, S, h1, h2⟩ := h
  exact ⟨(S v).dg, (S v).so, h2.deg v hv, h2.som v hv, by rw [h2.deg v hv]; omega, stand_ok v h1 hv⟩

set_option maxRecDepth 100000 in
set_option maxHeartbeats 1000000 in
theorem degree_ok (h : TA w lo tb V E R) (v : Nat) (hv : v < V) : Calls Tryd.prog 22 #[.pointer (some ⟨tb, 0, none⟩), .int .i64 (v : Int)] w fun x w' => x = .returned (.tuple #[.int .i64 ((R v).length : Int), .nilIface]) ∧ Below w.heap.size w w' := by
  obtain ⟨dg, so, hdg, _, hle, hh⟩ := h.stand v hv
  rw [← hdg]
  replace hh := hid hh
  clear h hv hdg
  go_enter Tryd.func22, Tryd.ntmps22
  go_wp2_with fail
  refine hh.out.mono ?_
  rintro x w1 ⟨rfl, b1⟩
  have hb := hid (b1.alloc b1.size (.cells #[.int .i32 (dg : Int), .int .i32 (so : Int)] 84))
  clear b1
  go_wp2_with fail
  go_ret2
  exact ⟨rfl, hb.out⟩

set_option maxRecDepth 100000 in
set_option maxHeartbeats 1000000 in
theorem round_nil (v : Int) (w : World) : Calls Tryd.prog 21 #[.pointer none, .int .i64 v] w fun x w' => x = .returned (.tuple #[.slice none 0 0, .iface 65 (.int .i64 1)]) ∧ Below w.heap.size w w' := by
  have hh := hid (stand_nil v w)
  go_enter Tryd.func21, Tryd.ntmps21
  go_wp2_with fail
  refine hh.out.mono ?_
  rintro x w1 ⟨rfl, b1⟩
  have hb := hid (b1.alloc b1.size (.cells #[.int .i32 0, .int .i32 0] 84))
  clear b1
  go_wp2_with fail
  go_ret2
  exact ⟨rfl, hb.out⟩

set_option maxRecDepth 100000 in
set_option maxHeartbeats 1000000 in
theorem round_range (h : TA w lo tb V E R) (v : Int) (hv : v < 0 ∨ (V : Int) ≤ v) : Calls Tryd.prog 21 #[.pointer (some ⟨tb, 0, none⟩), .int .i64 v] w fun x w' => x = .returned (.tuple #[.slice none 0 0, .iface 65 (.int .i64 12)]) ∧ Below w.heap.size w w' := by
  obtain ⟨dv, sv, K, M, D, S, h1, h2⟩ := h
  have hh := hid (stand_range v h1 hv)
  clear h1 h2 hv
  go_enter Tryd.func21, Tryd.ntmps21
  go_wp2_with fail
  refine hh.out.mono ?_
  rintro x w1 ⟨rfl, b1⟩
  have hb := hid (b1.alloc b1.size (.cells #[.int .i32 0, .int .i32 0] 84))
  clear b1
  go_wp2_with fail
  go_ret2
  exact ⟨rfl, hb.out⟩

theorem ownsRow_below' {w w' : World} {base e size n : Nat} {v : Value} {xs : List Value} (h : w.ownsRow base e size v n xs) (hb : Below w.heap.size w w') : w'.ownsRow base e size v n xs := by
  refine ⟨h.1, ?_⟩
  rcases h.2 with h2 | ⟨g, cap, cur, hv, hg, hh, r⟩
  · exact .inl h2
  · refine .inr ⟨g, cap, cur, hv, hg, ?_, r⟩
    rw [hb.block g (Array.getElem?_eq_some_iff.1 hh).1]
    exact hh

theorem set_mid (A : List Value) (z u : Value) (j n : Nat) (hA : A.length = j) (hj : j < n) : (A ++ List.replicate (n - j) z).set j u = (A ++ [u]) ++ List.replicate (n - (j + 1)) z := by
  rw [List.set_append_right _ _ (by omega), hA, Nat.sub_self, show n - j = (n - (j + 1)) + 1 from by omega, List.replicate_succ, List.set_cons_zero]
  simp

theorem get_mid (A : List Value) (z : Value) (j n : Nat) (hA : A.length = j) (hj : j < n) : (A ++ List.replicate (n - j) z)[j]? = some z := by
  rw [List.getElem?_append_right (by omega), hA, Nat.sub_self, List.getElem?_replicate, if_pos (by omega)]

set_option maxRecDepth 100000 in
set_option maxHeartbeats 2000000 in
theorem round_ok (h : TA w lo tb V E R) (v : Nat) (hv : v < V) : Calls Tryd.prog 21 #[.pointer (some ⟨tb, 0, none⟩), .int .i64 (v : Int)] w fun x w' => ∃ rv, x = .returned (.tuple #[rv, .nilIface]) ∧ w'.ownsRow w.heap.size 3 1 rv (R v).length (ncs (lf (R v))) ∧ Below w.heap.size w w' := by
  obtain ⟨j0, hjf, hy0, hy1, hy2⟩ := info_parts infoInt
  obtain ⟨dg, so, hdg, hso, hle, hh⟩ := h.stand v hv
  have hn := h.tn.nd v hv
  have hls := hid (fun y (hy : Below w.heap.size w y) => least_ok (h.more hy) v dg so hv hdg hso)
  obtain ⟨l, hl⟩ : ∃ l, R v = l := ⟨_, rfl⟩
  have hlow : ∀ x, x ∈ l → x ≤ 2097152 := fun x hx => by have := low32 h hv (hl ▸ hx); omega
  obtain ⟨dv, sv, K, M, D, S, h1, h2⟩ := h
  have hon : ∀ x, x ∈ l → D x = ⟨nx l x, pv l x, (v : Int)⟩ := fun x hx => by rw [← hl]; exact h2.on v x hv (hl ▸ hx)
  rw [hl] at hn hdg hso hls ⊢
  rw [← hdg]
  have hall := hid (And.intro h1 (And.intro hon hlow))
  replace hn := hid hn
  replace hdg := hid hdg
  replace hh := hid hh
  clear h1 h2 hl hon hlow hso
  go_enter Tryd.func21, Tryd.ntmps21
  go_wp2_with fail
  refine hh.out.mono ?_
  rintro x w1 ⟨rfl, b1⟩
  obtain ⟨q0, q1, _, _⟩ := blk2' (heap_alloc_new w1 (.cells #[.int .i32 (dg : Int), .int .i32 (so : Int)] 84))
  have hb2 := b1.alloc b1.size (.cells #[.int .i32 (dg : Int), .int .i32 (so : Int)] 84)
  have hs1 := b1.size
  obtain ⟨w2, hw2⟩ : ∃ w2, w1.alloc (.cells #[.int .i32 (dg : Int), .int .i32 (so : Int)] 84) = w2 := ⟨_, rfl⟩
  have hsz : w.heap.size ≤ w2.heap.size := hb2.size |> fun h => by rw [hw2] at h; exact h
  rw [hw2] at q0 q1 hb2
  have hq0 : Hid (w2.heap[w1.heap.size]? = some (.cells #[.int .i32 (dg : Int), .int .i32 (so : Int)] 84 (0, 0))) := by rw [← hw2]; exact hid (heap_alloc_new _ _)
  replace hb2 := hid hb2
  clear hh
  go_wp2_with (first | (rw [hw2]) | (at_make; refine wpList_make_full _ rfl (.tmp 21) (.tmp 21) 53 rfl w.heap.size 3 j0 (.int .i64 0) 1 Tryd.underlying53 hjf hy0 hy1 .i32 .i32 _ _ dg rfl rfl rfl rfl (by rw [hy2]; omega) (by unfold maxLen; omega) hsz ?_; intro w3 hown hgrow; refine Hid.out ?_))
  have hb3 := hb2.out.grown hgrow hsz (fun k hk => by cases hk)
  have hq3 := (hgrow.block w1.heap.size (Array.getElem?_eq_some_iff.1 hq0.out).1 (by simp)).trans hq0.out
  clear q0 q1 hw2 hq0
  obtain ⟨q0, q1, _, _⟩ := blk2' hq3
  have hown' : w3.ownsRow w.heap.size 3 1 (.slice (some ⟨w2.heap.size, 0, none⟩) dg dg) dg (ncs ((lf l).take 0) ++ List.replicate (dg - 0) (.int .i64 0)) := by
    have e1 : (madeCells (Value.int IntKind.i64 0).cells (dg * 1)).toList = List.replicate dg (.int .i64 0) := by
      rw [Nat.mul_one]
      show (madeCells #[Value.int .i64 0] dg).toList = _
      rw [toList_madeCells_one]
    rw [e1] at hown
    simpa [ncs] using hown
  have hsz3 := hb3.size
  replace hb3 := hid hb3
  replace hown' := hid hown'
  clear hown hgrow hq3 b1 hb2
  refine hid ?_
  go_wp2_with fail
  refine (hls.out w3 hb3.out).mono ?_
  rintro x w4 ⟨x0, rfl, hx0, b4⟩
  have hb4 : Hid (Below w.heap.size w w4) := hb3.out.trans (b4.mono hsz3)
  have hown4 : Hid (w4.ownsRow w.heap.size 3 1 (.slice (some ⟨w2.heap.size, 0, none⟩) dg dg) dg (ncs ((lf l).take 0) ++ List.replicate (dg - 0) (.int .i64 0))) := ownsRow_below' hown'.out b4
  have hget : Hid (∀ k, k < dg → (lf l)[k]? = some (itn (nx l) k x0) ∧ itn (nx l) k x0 ∈ l) := fun k hk => by
    have hne : l ≠ [] := fun e => by have := hdg.out; rw [e] at this; simp at this; omega
    have e1 := hx0 hne
    have hm := least0_mem l hne
    rw [e1]
    exact ⟨itn_get hn.out hm k (by rw [← hdg.out]; exact hk), itn_mem hn.out hm k⟩
  have hlen : Hid ((lf l).length = dg) := by unfold lf; rw [rot_len]; exact hid hdg.out.symm
  clear q0 q1 b4 hown' hb3 hx0 hls
  go_wp2_with fail
  go_loopw [9, 10, 28] (fun s9 _ s28 wr => ∃ j x : Nat, j ≤ dg ∧ s28 = .int .i64 (j : Int) ∧ s9 = .int .i32 (x : Int) ∧ Hid (x = itn (nx l) j x0 ∧ wr.ownsRow w.heap.size 3 1 (.slice (some ⟨w2.heap.size, 0, none⟩) dg dg) dg (ncs ((lf l).take j) ++ List.replicate (dg - j) (.int .i64 0)) ∧ Below w.heap.size w wr)) (fun _ _ s28 _ => dg - (intOf s28).toNat)
  case atStart => exact ⟨0, x0, by omega, by go_num, rfl, rfl, hown4.out, hb4.out⟩
  case round =>
    obtain ⟨j, x, hj, rfl, rfl, hst⟩ := hrel
    clear hown4 hb4
    rcases Nat.lt_or_ge j dg with hlt | hge
    · obtain ⟨hxe, hrow, hbw⟩ := hst.out
      obtain ⟨hgj, hxm⟩ := hget.out j hlt
      rw [← hxe] at hgj hxm
      have hxl := hall.out.2.2 x hxm
      have hox := hall.out.2.1 x hxm
      have hjl : (ncs ((lf l).take j)).length = j := by rw [ncs_length, List.length_take, hlen.out]; omega
      obtain ⟨s1, s2⟩ := hrow.stored j (.int .i64 (x : Int))
      rw [set_mid _ _ _ j dg hjl hlt] at s1
      have hfz := hrow.frozenAt j
      have hold := (hrow.cellAt j (by omega)).trans (get_mid _ _ j dg hjl hlt)
      have htk : ncs ((lf l).take j) ++ [.int .i64 (x : Int)] = ncs ((lf l).take (j + 1)) := by
        rw [List.take_add_one, hgj, ncs_append]; rfl
      rw [htk] at s1
      have hb5 : Below w.heap.size w (wr.setCell ⟨w2.heap.size, j, none⟩ (.int .i64 (x : Int))) := hbw.grown s2 hbw.size (fun k hk => (hrow.lt k hk).1)
      have hm := hall.out.1.more hb5
      have hxK : x < K := hm.dlt (by rw [hox]; simp only []; omega)
      obtain ⟨g, cap, rfl, hc1, hc2⟩ := own_form hm.da (by omega)
      obtain ⟨a0, _, _⟩ := hm.dat hxK
      rw [hox] at a0
      simp only [] at a0
      have c2 := hm.c2
      have i1 : (0 : Int) ≤ (x : Int) := by omega
      have i2 : (x : Int) < (K : Int) := by omega
      have i3 : (0 : Int) ≤ (j : Int) := by omega
      have i4 : (j : Int) < (dg : Int) := by omega
      have hnx : Hid (nx l x = itn (nx l) (j + 1) x0) := by rw [hxe]; exact hid rfl
      generalize nx l x = z at a0 hnx
      have fin : Hid (wr.setCell ⟨w2.heap.size, j, none⟩ (.int .i64 (x : Int)) = wr.setCell ⟨w2.heap.size, j, none⟩ (.int .i64 (x : Int))) := rfl
      replace s1 := hid s1
      replace hb5 := hid hb5
      clear hst hrow hbw hgj hxm hox hjl s2 htk hm hxe
      go_upto_region 10 with fail
      generalize wr.setCell ⟨w2.heap.size, j, none⟩ (.int .i64 (x : Int)) = wt at s1 hb5 a0 c2 ⊢
      clear fin hfz hold
      go_wp2_with fail
      go_roundw
      case rel => exact ⟨j + 1, z, by omega, by go_num, rfl, hnx.out, s1.out, hb5.out⟩
      case measure => simp [intOf]; omega
    · obtain rfl : j = dg := by omega
      have hfin : Hid (wr.ownsRow w.heap.size 3 1 (.slice (some ⟨w2.heap.size, 0, none⟩) j j) j (ncs (lf l))) := by
        have h1 := hst.out.2.1
        rw [List.take_of_length_le (by rw [hlen.out]; exact Nat.le_refl _), Nat.sub_self] at h1
        exact hid (by simpa using h1)
      have hb := hid hst.out.2.2
      clear hst
      go_wp2_with fail
      go_ret2
      exact ⟨_, rfl, hfin.out, hb.out⟩

set_option maxRecDepth 100000 in
set_option maxHeartbeats 1000000 in
theorem sizes_nil (w : World) : Calls Tryd.prog 15 #[.pointer none] w fun x w' => x = .returned (.tuple #[.int .i64 0, .int .i64 0]) ∧ w = w' := by
  go_enter Tryd.func15, Tryd.ntmps15
  go_wp2_with fail
  go_ret2
  exact ⟨rfl, rfl⟩

set_option maxRecDepth 100000 in
set_option maxHeartbeats 1000000 in
theorem sizes_ok (h : TA w lo tb V E R) : Calls Tryd.prog 15 #[.pointer (some ⟨tb, 0, none⟩)] w fun x w' => x = .returned (.tuple #[.int .i64 (V : Int), .int .i64 (E : Int)]) ∧ ∃ m, w' = w.drewN m := by
  obtain ⟨dv, sv, K, M, D, S, h1, h2⟩ := h
  have c0 := h1.c0
  have c1 := h1.c1
  clear h1 h2
  go_enter Tryd.func15, Tryd.ntmps15
  go_wp2_with fail
  go_quiet (fail)
  go_wp2_with fail
  go_ret2
  exact ⟨rfl, _, rfl⟩

theorem pair_at (a b : Int) (w : World) : (Instr.index 35 (.agg #[.int .i64 a, .int .i64 b]) (.int .i64 0)).run Tryd.prog w = .ok (.int .i64 a) w ∧ (Instr.index 35 (.agg #[.int .i64 a, .int .i64 b]) (.int .i64 1)).run Tryd.prog w = .ok (.int .i64 b) w := by
  obtain ⟨i0, hif, hz0, hz1, hz2⟩ := info_parts infoInt
  constructor <;> simp [Instr.index, asIntOf, run_underlying Tryd.underlying35, part, Go.sizeOf, typeInfo, hif, hz1, isAgg, run_underlying Tryd.underlying3, go_sem]
end

end Go.Proofs.YtdlggnibgnflnaaDoor
