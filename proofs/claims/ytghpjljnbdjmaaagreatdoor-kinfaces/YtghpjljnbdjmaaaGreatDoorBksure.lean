/- slices.Sort as it lies at this seat. Sorting a row of one's own. kin.Bridges, walked. The law's 'sure', walked. -/
import Derived.Test.YtghpjljnbdjmaaaGreatDoorBcount
import Derived.Test.YtghpjljnbdjmaaaGreatDoorBfind
import Derived.Test.YtghpjljnbdjmaaaGreatDoorBknear
import Derived.Test.YtghpjljnbdjmaaaGreatDoorBktour
import Derived.Test.YtghpjljnbdjmaaaGreatDoorBtakes
import Derived.Test.YtghpjljnbdjmaaaGreatDoorLibL10
import Derived.Test.YtghpjljnbdjmaaaGreatDoorTLay10
import Derived.Shelf.Sort.Plain
import Derived.Shelf.Slices.In.SortNone
import Derived.Test.YtghpjljnbdjmaaaGreatDoorProg
import Derived.Sort.OwnSortedInts
namespace Go.Proofs
open Go.Shelf
def YtghpjljnbdjmaaaGreatDoor.sortL_ren : Go.Shelf.Ren := ⟨fun | 189 => 41 | 125 => 72 | 257 => 71 | 128 => 112 | 129 => 113 | 294 => 103 | 295 => 104 | 296 => 105 | 297 => 106 | 298 => 107 | 299 => 108 | 216 => 109 | 300 => 110 | 301 => 111 | 328 => 125 | 329 => 126 | 330 => 127 | 331 => 128 | 332 => 129 | 215 => 114 | 343 => 133 | n => n, fun | 28 => 30 | 3 => 3 | 46 => 65 | 0 => 0 | 51 => 169 | 53 => 171 | 4 => 4 | 183 => 161 | 182 => 160 | 131 => 166 | 5 => 5 | 9 => 9 | 218 => 194 | 222 => 198 | 228 => 206 | 229 => 45 | n => n, fun | n => n⟩
theorem YtghpjljnbdjmaaaGreatDoor.sortL : Go.Proofs.Lays.n189 Tryz.prog YtghpjljnbdjmaaaGreatDoor.sortL_ren := {
  mixed := by kernel_rfl
  f125 := Tryz.func72.trans (congrArg some (by kernel_rfl))
  f128 := Tryz.func112.trans (congrArg some (by kernel_rfl))
  f129 := Tryz.func113.trans (congrArg some (by kernel_rfl))
  f189 := Tryz.func41.trans (congrArg some (by kernel_rfl))
  f215 := Tryz.func114.trans (congrArg some (by kernel_rfl))
  f216 := Tryz.func109.trans (congrArg some (by kernel_rfl))
  f257 := Tryz.func71.trans (congrArg some (by kernel_rfl))
  f294 := Tryz.func103.trans (congrArg some (by kernel_rfl))
  f295 := Tryz.func104.trans (congrArg some (by kernel_rfl))
  f296 := Tryz.func105.trans (congrArg some (by kernel_rfl))
  f297 := Tryz.func106.trans (congrArg some (by kernel_rfl))
  f298 := Tryz.func107.trans (congrArg some (by kernel_rfl))
  f299 := Tryz.func108.trans (congrArg some (by kernel_rfl))
  f300 := Tryz.func110.trans (congrArg some (by kernel_rfl))
  f301 := Tryz.func111.trans (congrArg some (by kernel_rfl))
  f328 := Tryz.func125.trans (congrArg some (by kernel_rfl))
  f329 := Tryz.func126.trans (congrArg some (by kernel_rfl))
  f330 := Tryz.func127.trans (congrArg some (by kernel_rfl))
  f331 := Tryz.func128.trans (congrArg some (by kernel_rfl))
  f332 := Tryz.func129.trans (congrArg some (by kernel_rfl))
  f343 := Tryz.func133.trans (congrArg some (by kernel_rfl))
  t0 := Tryz.underlying0
  a0 := Tryz.isAgg0
  z0 := Tryz.sizeOf0
  v0 := Tryz.zeroValue0
  t3 := Tryz.underlying3
  a3 := Tryz.isAgg3
  z3 := Tryz.sizeOf3
  v3 := Tryz.zeroValue3
  t4 := Tryz.underlying4
  a4 := Tryz.isAgg4
  z4 := Tryz.sizeOf4
  v4 := Tryz.zeroValue4
  t5 := Tryz.underlying5
  a5 := Tryz.isAgg5
  z5 := Tryz.sizeOf5
  v5 := Tryz.zeroValue5
  t9 := Tryz.underlying9
  a9 := Tryz.isAgg9
  z9 := Tryz.sizeOf9
  v9 := Tryz.zeroValue9
  t28 := Tryz.underlying30
  a28 := Tryz.isAgg30
  z28 := Tryz.sizeOf30
  v28 := Tryz.zeroValue30
  t46 := Tryz.underlying65
  a46 := Tryz.isAgg65
  z46 := Tryz.sizeOf65
  v46 := Tryz.zeroValue65
  t51 := Tryz.underlying169
  a51 := Tryz.isAgg169
  z51 := Tryz.sizeOf169
  v51 := Tryz.zeroValue169
  t53 := Tryz.underlying171
  a53 := Tryz.isAgg171
  z53 := Tryz.sizeOf171
  v53 := Tryz.zeroValue171
  t131 := Tryz.underlying166
  a131 := Tryz.isAgg166
  z131 := Tryz.sizeOf166
  v131 := Tryz.zeroValue166
  t182 := Tryz.underlying160
  a182 := Tryz.isAgg160
  z182 := Tryz.sizeOf160
  v182 := Tryz.zeroValue160
  t183 := Tryz.underlying161
  a183 := Tryz.isAgg161
  z183 := Tryz.sizeOf161
  v183 := Tryz.zeroValue161
  t218 := Tryz.underlying194
  a218 := Tryz.isAgg194
  z218 := Tryz.sizeOf194
  v218 := Tryz.zeroValue194
  t222 := Tryz.underlying198
  a222 := Tryz.isAgg198
  z222 := Tryz.sizeOf198
  v222 := Tryz.zeroValue198
  t228 := Tryz.underlying206
  a228 := Tryz.isAgg206
  z228 := Tryz.sizeOf206
  v228 := Tryz.zeroValue206
  t229 := Tryz.underlying45
  a229 := Tryz.isAgg45
  z229 := Tryz.sizeOf45
  v229 := Tryz.zeroValue45 }
end Go.Proofs

namespace Go.Proofs.YtghpjljnbdjmaaaGreatDoor
open Go.RowKit
set_option linter.unusedVariables false

open Pq (fl fl_length fl_succ fl_get fl_congr)

theorem sorted_eq : ∀ (a b : List Nat), a.Pairwise (· < ·) → b.Pairwise (· < ·) → (∀ x, x ∈ a ↔ x ∈ b) → a = b
  | [], [], _, _, _ => rfl
  | [], y :: b, _, _, h => by have := (h y).2 (by simp); simp at this
  | x :: a, [], _, _, h => by have := (h x).1 (by simp); simp at this
  | x :: a, y :: b, ha, hb, h => by
    obtain ⟨a1, a2⟩ := List.pairwise_cons.1 ha
    obtain ⟨b1, b2⟩ := List.pairwise_cons.1 hb
    have e : x = y := by
      rcases List.mem_cons.1 ((h x).1 (by simp)) with q | q
      · exact q
      · have h1 := b1 x q
        rcases List.mem_cons.1 ((h y).2 (by simp)) with q2 | q2
        · exact q2.symm
        · have := a1 y q2; omega
    subst e
    rw [sorted_eq a b a2 b2 (fun z => ?_)]
    constructor
    · intro hz
      rcases List.mem_cons.1 ((h z).1 (List.mem_cons_of_mem _ hz)) with q | q
      · have := a1 z hz; omega
      · exact q
    · intro hz
      rcases List.mem_cons.1 ((h z).2 (List.mem_cons_of_mem _ hz)) with q | q
      · have := b1 z hz; omega
      · exact q

theorem sort_nat (bs : List Nat) : ∃ ts : List Nat, (bs.map (fun x : Nat => (x : Int))).mergeSort (fun x y => decide (x ≤ y)) = ts.map (fun x : Nat => (x : Int)) ∧ ts.Perm bs ∧ ts.Pairwise (· ≤ ·) := by
  have hp := List.mergeSort_perm (bs.map (fun x : Nat => (x : Int))) (fun x y => decide (x ≤ y))
  have hs := List.pairwise_mergeSort (le := fun (x y : Int) => decide (x ≤ y)) (fun a b c h1 h2 => by simp at h1 h2 ⊢; omega) (fun a b => by simp; omega) (bs.map (fun x : Nat => (x : Int)))
  generalize (bs.map (fun x : Nat => (x : Int))).mergeSort (fun x y => decide (x ≤ y)) = ms at hp hs
  have hn : ∀ z, z ∈ ms → 0 ≤ z := fun z hz => by
    have := hp.mem_iff.1 hz
    obtain ⟨x, _, rfl⟩ := List.mem_map.1 this
    omega
  refine ⟨ms.map Int.toNat, ?_, ?_, ?_⟩
  · rw [List.map_map]
    have : ms.map ((fun x : Nat => (x : Int)) ∘ Int.toNat) = ms.map id := List.map_congr_left (fun z hz => by
      show ((z.toNat : Nat) : Int) = z
      have := hn z hz
      omega)
    rw [this, List.map_id]
  · have := hp.map Int.toNat
    rw [List.map_map] at this
    have e : bs.map (Int.toNat ∘ fun x : Nat => (x : Int)) = bs.map id := List.map_congr_left (fun z _ => by simp)
    rw [e, List.map_id] at this
    exact this
  · rw [List.pairwise_map]
    refine hs.imp ?_
    intro a b hab
    simp at hab
    omega

theorem nat_int (l : List Nat) : (l.map (fun x : Nat => (x : Int))).map (Value.int .i64) = ncs l := by
  unfold ncs
  rw [List.map_map]
  rfl

/-- slices.Sort of a row of one's own. -/
theorem sort_ok {bb : Nat} {w : World} {v : Value} {bs : List Nat} (h : Rw bb w v bs) (hl : bs.length ≤ 1048576) :
    Calls Tryz.prog 41 #[v] w fun r w' => r = .returned (.tuple #[]) ∧ ∃ ts : List Nat, ts.Perm bs ∧ ts.Pairwise (· ≤ ·) ∧ Rw bb w' v ts ∧ w.grownBy w' v.ownBlock := by
  by_cases h0 : bs = []
  · subst h0
    obtain ⟨ad, cap, e, _⟩ := own_any h
    have hc := Any.slices_Sort_int_none (P := Tryz.prog) (ρ := YtghpjljnbdjmaaaGreatDoor.sortL_ren) YtghpjljnbdjmaaaGreatDoor.sortL ad cap w
    have hc : Calls Tryz.prog 41 #[.slice ad 0 cap] w fun e w' => e = .returned (.tuple #[]) ∧ w' = w := hc
    rw [e]
    refine hc.mono ?_
    rintro r w' ⟨rfl, rfl⟩
    exact ⟨rfl, [], List.Perm.refl _, List.Pairwise.nil, by rw [← e]; exact h, ⟨rfl, rfl, rfl, Nat.le_refl _, fun _ _ _ => rfl⟩⟩
  · rcases h.2 with ⟨_, q⟩ | ⟨g, cap, cur, rfl, hg, hh, c1, c2, c3, c4⟩
    · exact absurd (List.eq_nil_of_length_eq_zero q) h0
    · obtain ⟨ts, e1, e2, e3⟩ := sort_nat bs
      have hlen : (bs.map (fun x : Nat => (x : Int))).length = bs.length := by simp
      have hH := holds_of_blockI (ss := bs.map (fun x : Nat => (x : Int))) hh (by rw [hlen, nat_int, ← c4, Nat.mul_one])
      have hc := Any.slices_Sort_int (P := Tryz.prog) (ρ := YtghpjljnbdjmaaaGreatDoor.sortL_ren) YtghpjljnbdjmaaaGreatDoor.sortL g 0 cap (bs.map (fun x : Nat => (x : Int))) w hH (Array.getElem?_eq_some_iff.1 hh).1 (by rw [hlen]; omega)
      rw [hlen, e1] at hc
      have hc : Calls Tryz.prog 41 #[.slice (some ⟨g, 0, none⟩) bs.length cap] w fun e w' => e = .returned (.tuple #[]) ∧ ∃ n os, w' = Go.Sort.grow (Go.Sort.putRow (Value.int .i64) (Go.Sort.ahead w n) g 0 (ts.map (fun x : Nat => (x : Int))).toArray) os := hc
      refine hc.mono ?_
      rintro r w' ⟨rfl, n, os, rfl⟩
      have hr := ownsRow_sortedI (n := n) (os := os) (ss := bs.map (fun x : Nat => (x : Int))) (ts := ts.map (fun x : Nat => (x : Int))) (by simp [e2.length_eq]) hg hh (by rw [hlen]; exact c1) c2 c3
      rw [hlen, nat_int] at hr
      refine ⟨rfl, ts, e2, e3, ?_, grownBy_sortedI _⟩
      unfold Rw
      rw [e2.length_eq]
      exact hr

end Go.Proofs.YtghpjljnbdjmaaaGreatDoor

namespace Go.Proofs.YtghpjljnbdjmaaaGreatDoor
open Go.RowKit
set_option linter.unusedVariables false

open Pq (fl fl_length fl_succ fl_get fl_congr)

open Classical in
/-- The bridges, ascending. -/
noncomputable def brs (V E : Nat) (R : Nat → List Nat) : List Nat := (List.range E).filter (fun e => decide (In V R (2 * e) ∧ Br V R e))

theorem mem_brs {V E e : Nat} {R : Nat → List Nat} : e ∈ brs V E R ↔ e < E ∧ In V R (2 * e) ∧ Br V R e := by
  classical
  unfold brs
  simp

theorem brs_sorted (V E : Nat) (R : Nat → List Nat) : (brs V E R).Pairwise (· < ·) := by
  classical
  unfold brs
  exact List.Pairwise.filter _ List.pairwise_lt_range

theorem brs_is {V E : Nat} {R : Nat → List Nat} {bs ts : List Nat} (hn : bs.Nodup) (hm : ∀ e, e ∈ bs ↔ e < E ∧ In V R (2 * e) ∧ Br V R e) (hp : ts.Perm bs) (hs : ts.Pairwise (· ≤ ·)) : ts = brs V E R := by
  refine sorted_eq _ _ ?_ (brs_sorted V E R) (fun x => by rw [hp.mem_iff, hm, mem_brs])
  have hnd := hp.nodup_iff.2 hn
  have := List.Pairwise.and hs hnd
  exact this.imp (fun h => by omega)

set_option maxRecDepth 100000 in
set_option maxHeartbeats 2000000 in
theorem kbridges_nil (w : World) : Calls Tryz.prog 10 #[.pointer none] w fun r w' => ∃ u, r = .returned u ∧ Rw w.heap.size w' u [] ∧ Below w.heap.size w w' := by
  have hs := hid (sizes_nil w)
  have hn := hid (newtour_ok w none 0 0 (by omega) (by omega) ((sizes_nil w).mono (fun _ _ h => ⟨h.1, 0, h.2.symm⟩)))
  go_enter Tryz.func10, Tryz.ntmps10
  go_wp2_with fail
  refine hs.out.mono ?_
  rintro r w1 ⟨rfl, rfl⟩
  clear hs
  go_wp2_with fail
  refine hn.out.mono ?_
  rintro r w2 ⟨ub, pb, qb, gb, bb, rfl, hm⟩
  have hm2 := hid hm
  clear hn hm
  go_wp2_with fail
  go_loopw [19] (fun u wr => u = .int .i64 0 ∧ wr = w2) (fun _ _ => 0)
  case atStart => exact ⟨by go_num, rfl⟩
  case round =>
    obtain ⟨rfl, rfl⟩ := hrel
    have c5 := hm2.out.c5
    have hso := hid (sort_ok hm2.out.brow (by simp))
    go_wp2_with fail
    refine hso.out.mono ?_
    rintro r w3 ⟨rfl, ts, h1, h2, h3, h4⟩
    obtain rfl : ts = [] := h1.eq_nil
    have e5 : w3.cell? ⟨ub, 5, none⟩ = some (.slice none 0 0) := by
      rw [h4.cell_far ⟨ub, 5, none⟩ (by have := hm2.out.lts; show ub < _; omega) (by simp [Value.ownBlock])]
      exact c5
    have hb3 := hid (hm2.out.bel.grown h4 hm2.out.bsz (by simp [Value.ownBlock]))
    clear c5 hso h1 h2 h3 h4
    go_wp2_with fail
    go_ret
    exact ⟨_, rfl, World.ownsRow_nil _ _ _ _, hb3.out⟩

set_option maxRecDepth 100000 in
set_option maxHeartbeats 4000000 in
theorem kbridges_ok {w : World} {lo tb V E : Nat} {R : Nat → List Nat} (h : TA w lo tb V E R) (hw : Tw V E R) : Calls Tryz.prog 10 #[.pointer (some ⟨tb, 0, none⟩)] w fun r w' => ∃ u, r = .returned u ∧ Rw w.heap.size w' u (brs V E R) ∧ Below w.heap.size w w' := by
  have ht := h.tn
  have hV := h.hV
  have hE := h.hE
  have hs := hid (sizes_ok h)
  have hn := hid (fun y (hy : Below w.heap.size w y) => newtour_ok y (some ⟨tb, 0, none⟩) V E hV hE (sizes_ok (h.more hy)))
  have hsd := hid (fun (e : Nat) y (he : e < E) => ksides_ok e y (by omega))
  have hin := hid (fun (k : Nat) y (hy : Below w.heap.size w y) (hk : In V R k) => origin_in (h.more hy) k hk)
  have hou := hid (fun (k : Nat) y (hy : Below w.heap.size w y) (hk : ¬ In V R k) (hl : k < 2 * E) => origin_out (h.more hy) k hk hl)
  have hgo := hid (fun (w2 wy : World) (ub pb qb gb bb : Nat) (g : Gs) (r : Nat) (hy : Below w.heap.size w w2) (q : Tq V E R g r) (h0 : g.st = []) (hm : To w2 wy ub tb pb qb gb bb V E g) (f : Nat) (hf : In V R f) (hp : g.pl (og V R f) = 0) => goround_ok (h.more hy) hw q h0 hm f hf hp)
  have hogV : Hid (∀ k, In V R k → og V R k < V) := hid fun k hk => (og_is hk).1
  have hfin : Hid (∀ (g : Gs) r, Tq V E R g r → g.st = [] → (∀ e, e < E → In V R (2 * e) → g.pl (og V R (2 * e)) ≠ 0) → g.bs.length ≤ 1048576 ∧ ∀ ts : List Nat, ts.Perm g.bs → ts.Pairwise (· ≤ ·) → ts = brs V E R) := hid fun g r q h0 hm => ⟨by have := q.few ht; omega, fun ts hp hs => brs_is q.bnd (q.bridges ht hw h0 hm) hp hs⟩
  have hq0 : Hid (Tq V E R Gs.nil 0) := hid (Tq.nil V E R 0)
  clear h hw ht
  go_enter Tryz.func10, Tryz.ntmps10
  go_wp2_with fail
  refine hs.out.mono ?_
  rintro x w1 ⟨rfl, m1, rfl⟩
  have b1 := hid (belowN (Below.refl w.heap.size w) m1)
  obtain ⟨w1, hw1⟩ : ∃ w1, w.drewN m1 = w1 := ⟨_, rfl⟩
  rw [hw1] at b1 ⊢
  clear hs hw1
  go_wp2_with fail
  refine (hn.out w1 b1.out).mono ?_
  rintro r w2 ⟨ub, pb, qb, gb, bb, rfl, hm⟩
  have hst0 : Hid (To w1 w2 ub tb pb qb gb bb V E Gs.nil) := hid ⟨_, hm⟩
  clear hn hm
  go_wp2_with fail
  go_loopw [6, 7, 8, 9, 10, 19] (fun _ _ _ _ _ u wr => ∃ (e : Nat) (g : Gs) (r : Nat), e ≤ E ∧ u = .int .i64 (e : Int) ∧ Hid (Tq V E R g r ∧ g.st = [] ∧ To w1 wr ub tb pb qb gb bb V E g ∧ ∀ k, k < e → In V R (2 * k) → g.pl (og V R (2 * k)) ≠ 0)) (fun _ _ _ _ _ u _ => E - (intOf u).toNat)
  case atStart => exact ⟨0, Gs.nil, 0, by omega, by go_num, hid ⟨hq0.out, rfl, hst0.out, fun k hk => by omega⟩⟩
  case round =>
    obtain ⟨e, g, r, he, rfl, hst⟩ := hrel
    clear hst0
    obtain ⟨hq, h0, hto, hmet⟩ := hst.out
    obtain ⟨bv, hum⟩ := id hto
    rcases Nat.lt_or_ge e E with hlt | hge
    · have hbw : Below w.heap.size w wr := b1.out.trans (hum.bel.mono b1.out.size)
      have hsc := hid (hsd.out e wr hlt)
      obtain ⟨d, hd⟩ : ∃ d, 2 * e = d := ⟨_, rfl⟩
      obtain ⟨d1, hd1⟩ : ∃ d1, 2 * e + 1 = d1 := ⟨_, rfl⟩
      rw [hd, show d + 1 = d1 by omega] at hsc
      by_cases hi : In V R d
      · have hoc := hid (hin.out d wr hbw hi)
        have hvV := hogV.out d hi
        obtain ⟨v, hv⟩ : ∃ v, og V R d = v := ⟨_, rfl⟩
        rw [hv] at hoc hvV
        by_cases hp : g.pl v = 0
        · have hre := hid (fun y (hy : Below wr.heap.size wr y) => treached_ok (hum.more hy) v false hvV (by simp [hp]))
          have hgc := hid (fun y (hy : Below wr.heap.size wr y) => hgo.out w1 y ub pb qb gb bb g r b1.out hq h0 ⟨bv, hum.more hy⟩ d hi (by rw [hv]; exact hp))
          have hmm := hid (fun (g' : Gs) (k1 : ∀ x, g.pl x ≠ 0 → g'.pl x ≠ 0) (k2 : g'.pl (og V R d) ≠ 0) => show ∀ k, k < e + 1 → In V R (2 * k) → g'.pl (og V R (2 * k)) ≠ 0 from fun k hk hik => by
            by_cases c : k = e
            · subst c; rw [hd]; exact k2
            · exact k1 _ (hmet k (by omega) hik))
          clear hst hq h0 hto hum hmet hi hd hd1 hv hp hbw
          go_wp2_with fail
          refine hsc.out.mono ?_
          rintro x w3 ⟨rfl, rfl⟩
          clear hsc
          go_wp2_with fail
          refine hoc.out.mono ?_
          rintro x w4 ⟨rfl, b4⟩
          have hre4 := hid (hre.out w4 b4)
          have hgc4 := hid (hgc.out w4 b4)
          clear hoc hre hgc b4
          go_wp2_with fail
          refine hre4.out.mono ?_
          rintro x w5 ⟨rfl, rfl⟩
          clear hre4
          go_wp2_with fail
          refine hgc4.out.mono ?_
          rintro x w6 ⟨rfl, g', r', k1, k2, k3, k4, k5⟩
          have hnew := hid (And.intro k1 (And.intro k2 (And.intro k3 (hmm.out g' k4 k5))))
          clear hgc4 k1 k2 k3 k4 k5 hmm
          go_wp2_with fail
          go_roundw
          case rel => exact ⟨e + 1, g', r', by omega, by go_num, hnew⟩
          case measure => simp [intOf]; omega
        · have hre := hid (fun y (hy : Below wr.heap.size wr y) => treached_ok (hum.more hy) v true hvV (by simp [hp]))
          have hmm : ∀ k, k < e + 1 → In V R (2 * k) → g.pl (og V R (2 * k)) ≠ 0 := fun k hk hik => by
            by_cases c : k = e
            · subst c; rw [hd, hv]; exact hp
            · exact hmet k (by omega) hik
          have hnw := hid (fun y (hy : Below wr.heap.size wr y) => And.intro hq (And.intro h0 (And.intro (show To w1 y ub tb pb qb gb bb V E g from ⟨bv, hum.more hy⟩) hmm)))
          clear hst hq h0 hto hum hmet hi hd hd1 hv hp hbw hmm
          go_wp2_with fail
          refine hsc.out.mono ?_
          rintro x w3 ⟨rfl, rfl⟩
          clear hsc
          go_wp2_with fail
          refine hoc.out.mono ?_
          rintro x w4 ⟨rfl, b4⟩
          have hre4 := hid (hre.out w4 b4)
          have hnew := hid (hnw.out w4 b4)
          clear hoc hre hnw b4
          go_wp2_with fail
          refine hre4.out.mono ?_
          rintro x w5 ⟨rfl, rfl⟩
          clear hre4
          go_wp2_with fail
          go_roundw
          case rel => exact ⟨e + 1, g, r, by omega, by go_num, hnew⟩
          case measure => simp [intOf]; omega
      · have hoc := hid (hou.out d wr hbw hi (by omega))
        have hmm : ∀ k, k < e + 1 → In V R (2 * k) → g.pl (og V R (2 * k)) ≠ 0 := fun k hk hik => by
          by_cases c : k = e
          · subst c; rw [hd] at hik; exact absurd hik hi
          · exact hmet k (by omega) hik
        have hnw := hid (fun y (hy : Below wr.heap.size wr y) => And.intro hq (And.intro h0 (And.intro (show To w1 y ub tb pb qb gb bb V E g from ⟨bv, hum.more hy⟩) hmm)))
        clear hst hq h0 hto hum hmet hi hd hd1 hbw hmm
        go_wp2_with fail
        refine hsc.out.mono ?_
        rintro x w3 ⟨rfl, rfl⟩
        clear hsc
        go_wp2_with fail
        refine hoc.out.mono ?_
        rintro x w4 ⟨rfl, b4⟩
        have hnew := hid (hnw.out w4 b4)
        clear hoc hnw b4
        go_wp2_with fail
        go_roundw
        case rel => exact ⟨e + 1, g, r, by omega, by go_num, hnew⟩
        case measure => simp [intOf]; omega
    · obtain rfl : e = E := by omega
      obtain ⟨f1, f2⟩ := hfin.out g r hq h0 (fun k hk hik => hmet k hk hik)
      have c5 := hum.c5
      have hso := hid (sort_ok hum.brow f1)
      replace hum := hid hum
      replace f2 := hid f2
      clear hst hq h0 hto hmet f1
      go_wp2_with fail
      refine hso.out.mono ?_
      rintro x w3 ⟨rfl, ts, h1, h2, h3, h4⟩
      have h5 := f2.out ts h1 h2
      have e5 : w3.cell? ⟨ub, 5, none⟩ = some bv := by
        rw [h4.cell_far ⟨ub, 5, none⟩ (by have := hum.out.lts; show ub < _; omega) (fun q => by have := (World.ownsRow.lt hum.out.brow ub q.symm).1; have := hum.out.lts; omega)]
        exact c5
      have hb3 : Below w1.heap.size w1 w3 := hum.out.bel.grown h4 hum.out.bsz (fun k q => by have := (World.ownsRow.lt hum.out.brow k q).1; have := hum.out.lts; have := hum.out.ubl; omega)
      have hbb : w.heap.size ≤ bb := by have := hum.out.lts; have := hum.out.ubl; have := b1.out.size; omega
      rw [h5] at h3
      have fin := hid (And.intro (h3.low hbb) (b1.out.trans (hb3.mono b1.out.size)))
      clear c5 hso h1 h2 h3 h4 h5 hb3 hbb hum
      go_wp2_with fail
      go_ret
      exact ⟨_, rfl, fin.out.1, fin.out.2⟩

end Go.Proofs.YtghpjljnbdjmaaaGreatDoor

namespace Go.Proofs.YtghpjljnbdjmaaaGreatDoor
open Go.RowKit
set_option linter.unusedVariables false

abbrev R01 : Nat → List Nat := layR R00 0 0 1 none none
abbrev R02 : Nat → List Nat := layR R01 1 0 1 (some 0) (some 1)
theorem tn01 : Tn 2 2 R01 ∧ Tw 2 2 R01 ∧ ∀ x, In 2 R01 x ↔ x = 2 * 0 + 1 ∨ x = 2 * 0 ∨ In 2 R00 x := (Tn.new 2 2).lay (Tw.new 2 2) (by decide) (by decide) (by decide) (fun y e => by cases e) (fun y e => by cases e) (no00 2 _)
theorem no2 : ¬ In 2 R01 (2 * 1) := fun q => by
  rcases (tn01.2.2 _).1 q with q | q | q
  · omega
  · omega
  · exact no00 2 _ q
theorem tn02 : Tn 2 2 R02 ∧ Tw 2 2 R02 ∧ ∀ x, In 2 R02 x ↔ x = 2 * 1 + 1 ∨ x = 2 * 1 ∨ In 2 R01 x := tn01.1.lay tn01.2.1 (by decide) (by decide) (by decide) (fun y e => by cases e; decide) (fun y e => by cases e; decide) no2

theorem brs01 : brs 2 2 R01 = [0] := by
  refine sorted_eq _ _ (brs_sorted _ _ _) (by simp) (fun x => ?_)
  rw [mem_brs]
  have h0 : og 2 R01 (2 * 0) = 0 := og_at tn01.1 (by decide) (by decide)
  have h1 : og 2 R01 (2 * 0 + 1) = 1 := og_at tn01.1 (by decide) (by decide)
  have hb : Br 2 R01 0 := by
    rw [br_lb tn01.1 tn01.2.1, h0, h1]
    have hs : ∀ v, v < 2 → liftR R01 0 v = R00 v := lay_lift (e := 0) (u := 0) (v := 1) (a := none) (b := none) (Tn.new 2 2) (Tw.new 2 2) (by decide) (by decide) (by decide) (fun y e => by cases e) (fun y e => by cases e) (no00 2 _)
    rw [lb_same (Tn.new 2 2) (Tw.new 2 2) hs, lb_new]
    decide
  constructor
  · rintro ⟨q1, q2, _⟩
    have : x ≠ 1 := fun c => no2 (c ▸ q2)
    simp; omega
  · intro q
    obtain rfl : x = 0 := by simpa using q
    exact ⟨by decide, (tn01.2.2 _).2 (.inr (.inl rfl)), hb⟩

theorem brs02 : brs 2 2 R02 = [] := by
  refine sorted_eq _ _ (brs_sorted _ _ _) (by simp) (fun x => ?_)
  rw [mem_brs]
  have h0 : og 2 R02 0 = 0 := og_at tn02.1 (by decide) (by decide)
  have h1 : og 2 R02 1 = 1 := og_at tn02.1 (by decide) (by decide)
  have h2 : og 2 R02 2 = 0 := og_at tn02.1 (by decide) (by decide)
  have h3 : og 2 R02 3 = 1 := og_at tn02.1 (by decide) (by decide)
  have i0 : In 2 R02 0 := ⟨0, by decide, by decide⟩
  have i2 : In 2 R02 2 := ⟨0, by decide, by decide⟩
  have k0 : Kn 2 R02 ((0 : Nat) : Int) 0 1 := by
    have := Kn.one (V := 2) (R := R02) (e := ((0 : Nat) : Int)) (d := 2) ⟨i2, by decide⟩
    rw [show tw 2 = 3 from rfl, h2, h3] at this
    exact this
  have k1 : Kn 2 R02 ((1 : Nat) : Int) 0 1 := by
    have := Kn.one (V := 2) (R := R02) (e := ((1 : Nat) : Int)) (d := 0) ⟨i0, by decide⟩
    rw [show tw 0 = 1 from rfl, h0, h1] at this
    exact this
  constructor
  · rintro ⟨q1, _, q3⟩
    exfalso
    have : x = 0 ∨ x = 1 := by omega
    rcases this with rfl | rfl
    · unfold Br at q3
      rw [show 2 * 0 = 0 from rfl, show 0 + 1 = 1 from rfl, h0, h1] at q3
      exact q3 k0
    · unfold Br at q3
      rw [show 2 * 1 = 2 from rfl, show 2 + 1 = 3 from rfl, h2, h3] at q3
      exact q3 k1
  · intro q; simp at q

set_option maxRecDepth 100000 in
set_option maxHeartbeats 4000000 in
theorem sure_ok15 (w : World) : Calls Tryz.prog 15 #[] w fun x w' => x = .returned (.bool true) ∧ Below w.heap.size w w' := by
  have h1 := hid (new_ok 2 2 w (by decide) (by decide) (by decide) (by decide))
  have hco : ∀ u : Nat, u < 2 → Co 2 R00 (u : Int) (-1) := fun u hu => ⟨u, rfl, hu, .inl ⟨rfl, rfl⟩⟩
  have h2 : Hid (∀ y : World, TA y w.heap.size w.heap.size 2 2 R00 → Calls Tryz.prog 29 #[.pointer (some ⟨w.heap.size, 0, none⟩), .int .i64 0, .agg #[.int .i64 0, .int .i64 (-1)], .agg #[.int .i64 1, .int .i64 (-1)]] y fun x w' => x = .returned .nilIface ∧ TA w' w.heap.size w.heap.size 2 2 R01 ∧ Kp w.heap.size y w') := hid (fun y hy => lay_ok hy 0 0 1 (-1) (-1) (by decide) (no00 2 _) (no00 2 _) (hco 0 (by decide)) (hco 1 (by decide)))
  have h3 : Hid (∀ y : World, TA y w.heap.size w.heap.size 2 2 R01 → Calls Tryz.prog 10 #[.pointer (some ⟨w.heap.size, 0, none⟩)] y fun x w' => ∃ u, x = .returned u ∧ Rw y.heap.size w' u [0] ∧ Below y.heap.size y w') := hid (fun y hy => by
    have := kbridges_ok hy tn01.2.1
    rw [brs01] at this
    exact this)
  have h4 : Hid (∀ y : World, TA y w.heap.size w.heap.size 2 2 R01 → Calls Tryz.prog 29 #[.pointer (some ⟨w.heap.size, 0, none⟩), .int .i64 1, .agg #[.int .i64 0, .int .i64 0], .agg #[.int .i64 1, .int .i64 1]] y fun x w' => x = .returned .nilIface ∧ TA w' w.heap.size w.heap.size 2 2 R02 ∧ Kp w.heap.size y w') := hid (fun y hy => lay_ok hy 1 0 1 0 1 (by decide) no2 (fun q => no2 ((tn01.2.1 1 (by decide)).2 q)) ⟨0, rfl, by decide, .inr ⟨0, rfl, by decide⟩⟩ ⟨1, rfl, by decide, .inr ⟨1, rfl, by decide⟩⟩)
  have h5 : Hid (∀ y : World, TA y w.heap.size w.heap.size 2 2 R02 → Calls Tryz.prog 10 #[.pointer (some ⟨w.heap.size, 0, none⟩)] y fun x w' => ∃ u, x = .returned u ∧ Rw y.heap.size w' u [] ∧ Below y.heap.size y w') := hid (fun y hy => by
    have := kbridges_ok hy tn02.2.1
    rw [brs02] at this
    exact this)
  clear hco
  go_enter Tryz.func15, Tryz.ntmps15
  go_wp2_with fail
  refine h1.out.mono ?_
  rintro x w1 ⟨rfl, a1, b1⟩
  replace a1 := hid a1
  replace b1 := hid b1
  go_wp2_with fail
  refine (h2.out w1 a1.out).mono ?_
  rintro x w2 ⟨rfl, a2, k2⟩
  have b2 : Hid (Below w.heap.size w w2) := b1.out.trans (k2.below b1.out.size)
  replace a2 := hid a2
  clear k2 a1 b1 h1 h2
  go_wp2_with fail
  refine (h3.out w2 a2.out).mono ?_
  rintro x w3 ⟨u3, rfl, r3, b3⟩
  have a3 := hid (a2.out.more b3)
  have c3 := hid (b2.out.trans (b3.mono b2.out.size))
  have hba : Below w3.heap.size w3 (w3.alloc (.cells #[.int .i64 0] 3)) := balloc _ _
  have hlit : Rw w3.heap.size (w3.alloc (.cells #[.int .i64 0] 3)) (.slice (some ⟨w3.heap.size, 0, none⟩) 1 1) [0] := World.ownsRow_lit w3 #[.int .i64 0] 1 (Nat.le_refl _) (by unfold maxLen; omega) rfl
  have hint := hid (ints_ok u3 (.slice (some ⟨w3.heap.size, 0, none⟩) 1 1) [0] (w3.alloc (.cells #[.int .i64 0] 3)) (r3.more hba).nl hlit.nl)
  have a4 := hid (a3.out.more hba)
  have c4 := hid (c3.out.trans (hba.mono c3.out.size))
  clear h3 b3 a2 b2 a3 c3 hba hlit r3
  go_wp2_with fail
  refine hint.out.mono ?_
  rintro x w5 ⟨rfl, m5, rfl⟩
  have bq := belowN (Below.refl (w3.alloc (.cells #[.int .i64 0] 3)).heap.size (w3.alloc (.cells #[.int .i64 0] 3))) m5
  have a5 := hid (a4.out.more bq)
  have c5 := hid (c4.out.trans (bq.mono c4.out.size))
  clear bq a4 c4 hint
  generalize (w3.alloc (.cells #[.int .i64 0] 3)).drewN m5 = w5 at a5 c5 ⊢
  go_wp2_with fail
  refine (h4.out w5 a5.out).mono ?_
  rintro x w6 ⟨rfl, a6, k6⟩
  have c6 : Hid (Below w.heap.size w w6) := c5.out.trans (k6.below c5.out.size)
  replace a6 := hid a6
  clear k6 a5 c5 h4
  go_wp2_with fail
  refine (h5.out w6 a6.out).mono ?_
  rintro x w7 ⟨u7, rfl, r7, b7⟩
  obtain ⟨ad, cap, rfl, _⟩ := own_any r7
  have c7 := hid (c6.out.trans (b7.mono c6.out.size))
  clear h5 a6 c6 r7 b7
  go_wp2_with fail
  go_ret
  exact ⟨rfl, c7.out⟩
end Go.Proofs.YtghpjljnbdjmaaaGreatDoor
