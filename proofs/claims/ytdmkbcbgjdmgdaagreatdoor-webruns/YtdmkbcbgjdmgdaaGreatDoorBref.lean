/- The reference's Sum, Least and Most, walked. The reference's Most and Find, walked. The reference's rows of rows in memory; New, Find, without, from, walked. The reference's without, from, Walk, Turn, walked. The reference's Walk and Turn, walked. -/
import Derived.Test.YtdmkbcbgjdmgdaaGreatDoorBseqd
import Derived.Test.YtdmkbcbgjdmgdaaGreatDoorBringb
import Derived.Deep.RegionHeld3
namespace Go.Proofs.YtdmkbcbgjdmgdaaGreatDoor
open Go.RowKit
set_option linter.unusedVariables false

/-- A row of items that lies in a block from a place on; a row of values. -/
def Ir (w : World) (g o : Nat) (l : List Nat) : Prop := ∀ (j d : Nat), l[j]? = some (d + 1) → w.cell? ⟨g, o + j, none⟩ = some (.int .i64 (d : Int))
def Vr (w : World) (h m : Nat) (v : Nat → Int) : Prop := ∀ d : Nat, d < m → w.cell? ⟨h, d, none⟩ = some (.int .i64 (v (d + 1)))

theorem sum_next (v : Nat → Int) (l : List Nat) (i z : Nat) (h : l[i]? = some z) : sumV v (l.take (i + 1)) = sumV v (l.take i) + v z := by
  rw [List.take_add_one, h, sumV_append]; simp [sumV]
theorem wrap_next (a b : Int) : wrap64 (wrap64 a + b) = wrap64 (a + b) := by
  simp only [wrap64]; omega



/-- The first of the least of a row. -/
def Fst (v : Nat → Int) (l : List Nat) (z : Nat) : Prop := ∃ A B, l = A ++ z :: B ∧ (∀ y, y ∈ A → v z < v y) ∧ ∀ y, y ∈ B → v z ≤ v y
theorem Fst.stay {v : Nat → Int} {l : List Nat} {z y : Nat} (h : Fst v l z) (hy : ¬ v y < v z) : Fst v (l ++ [y]) z := by
  obtain ⟨A, B, rfl, hA, hB⟩ := h
  refine ⟨A, B ++ [y], by simp, hA, fun x hx => ?_⟩
  rcases List.mem_append.1 hx with hx | hx
  · exact hB x hx
  · rw [List.mem_singleton.1 hx]; omega
theorem Fst.turn {v : Nat → Int} {l : List Nat} {z y : Nat} (h : Fst v l z) (hy : v y < v z) : Fst v (l ++ [y]) y := by
  obtain ⟨A, B, rfl, hA, hB⟩ := h
  refine ⟨A ++ z :: B, [], rfl, fun x hx => ?_, fun x hx => by cases hx⟩
  rcases List.mem_append.1 hx with hx | hx
  · have := hA x hx; omega
  · rcases List.mem_cons.1 hx with rfl | hx
    · exact hy
    · have := hB x hx; omega
theorem Fst.mem {v : Nat → Int} {l : List Nat} {z : Nat} (h : Fst v l z) : z ∈ l := by
  obtain ⟨A, B, rfl, _⟩ := h
  simp



end Go.Proofs.YtdmkbcbgjdmgdaaGreatDoor

namespace Go.Proofs.YtdmkbcbgjdmgdaaGreatDoor
open Go.RowKit
set_option linter.unusedVariables false



/-- Rows of rows. -/
def Rr (w : World) (b : Nat) (ls : List (List Nat)) : Prop := ∀ (i : Nat) (l : List Nat), ls[i]? = some l → ∃ g o cap, w.cell? ⟨b, i, none⟩ = some (.slice (some ⟨g, o, none⟩) l.length cap) ∧ Ir w g o l

set_option maxRecDepth 100000 in
set_option maxHeartbeats 2000000 in
theorem rfind_ok (b capo i0 k0 d : Nat) (ls : List (List Nat)) (l0 : List Nat) (w : World) (hr : Rr w b ls) (hi0 : ls[i0]? = some l0) (hk0 : l0[k0]? = some (d + 1)) (hfi : ∀ i l, i < i0 → ls[i]? = some l → d + 1 ∉ l) (hfk : ∀ k, k < k0 → l0[k]? ≠ some (d + 1)) (hnz : ∀ l, l ∈ ls → 0 ∉ l) (hlen : ls.length ≤ 1000000) (hlens : ∀ l, l ∈ ls → l.length ≤ 1000000) :
    Calls Tryz.prog 39 #[.slice (some ⟨b, 0, none⟩) ls.length capo, .int .i64 (d : Int)] w fun e w' => e = .returned (.tuple #[.int .i64 (i0 : Int), .int .i64 (k0 : Int)]) ∧ w = w' := by
  have hil0 := (List.getElem?_eq_some_iff.1 hi0).1
  have hkl0 := (List.getElem?_eq_some_iff.1 hk0).1
  have hr := hid hr
  have hfi := hid hfi
  have hfk := hid hfk
  have hnz := hid hnz
  have hlens := hid hlens
  have hi0 := hid hi0
  have hk0 := hid hk0
  go_enter Tryz.func39, Tryz.ntmps39
  go_wp2_with fail
  go_loopw [6, 7] (fun u _ wr => ∃ i : Nat, i ≤ i0 ∧ u = .int .i64 (i : Int) ∧ w = wr) (fun u _ _ => i0 - (intOf u).toNat)
  case atStart => exact ⟨0, by omega, by go_num, rfl⟩
  case round =>
    obtain ⟨i, hi, rfl, rfl⟩ := hrel
    have hil : i < ls.length := by omega
    obtain ⟨l, hl⟩ : ∃ l, ls[i]? = some l := ⟨_, List.getElem?_eq_getElem hil⟩
    obtain ⟨g, o, cap, c1, hI⟩ := hr.out i l hl
    have hll := hlens.out l (List.mem_of_getElem? hl)
    have i1 : (0 : Int) ≤ (i : Int) := by omega
    have i2 : (i : Int) < (ls.length : Int) := by omega
    have hI := hid hI
    have hl := hid hl
    go_wp2_with fail
    go_loopw [7] (fun u wr => ∃ k : Nat, k ≤ l.length ∧ (i = i0 → k ≤ k0) ∧ u = .int .i64 (k : Int) ∧ w = wr) (fun u _ => l.length - (intOf u).toNat)
    case atStart => exact ⟨0, by omega, fun _ => by omega, by go_num, rfl⟩
    case round =>
      obtain ⟨k, hk, hkk, rfl, rfl⟩ := hrel
      rcases Nat.lt_or_ge k l.length with hkl | hkg
      · obtain ⟨z, hz⟩ : ∃ z, l[k]? = some z := ⟨_, List.getElem?_eq_getElem hkl⟩
        have hzn : z ≠ 0 := fun e => hnz.out l (List.mem_of_getElem? hl.out) (by rw [← e]; exact List.mem_of_getElem? hz)
        obtain ⟨y, rfl⟩ : ∃ y, z = y + 1 := ⟨z - 1, by omega⟩
        have c2 := hI.out k y hz
        have k1 : (0 : Int) ≤ (k : Int) := by omega
        have k2 : (k : Int) < (l.length : Int) := by omega
        by_cases hyd : y = d
        · subst hyd
          have e1 : i = i0 := by
            rcases Nat.lt_or_ge i i0 with h1 | h1
            · exact absurd (List.mem_of_getElem? hz) (hfi.out i l h1 hl.out)
            · omega
          subst e1
          have e2 : l = l0 := by have := hl.out; rw [hi0.out] at this; injection this with this; exact this.symm
          subst e2
          have e3 : k = k0 := by
            rcases Nat.lt_or_ge k k0 with h1 | h1
            · exact absurd hz (hfk.out k h1)
            · have := hkk rfl; omega
          subst e3
          clear hz
          go_wp2_with fail
          go_ret2
          exact ⟨rfl, rfl⟩
        · have t1 : ((y : Int) == (d : Int)) = false := by rw [beq_eq_false_iff_ne]; omega
          have nx : Hid (i = i0 → k + 1 ≤ k0) := hid (fun e => by
            have h1 := hkk e
            rcases Nat.lt_or_ge k k0 with h2 | h2
            · omega
            · have e3 : k = k0 := by omega
              subst e e3
              have e2 : l = l0 := by have := hl.out; rw [hi0.out] at this; injection this with this; exact this.symm
              subst e2
              rw [hk0.out] at hz
              injection hz with hz
              omega)
          clear hz hkk
          go_wp2_with fail
          go_roundw
          case rel => exact ⟨k + 1, by omega, nx.out, by go_num, by trivial⟩
          case measure => simp [intOf]; omega
      · have hii : i < i0 := by
          rcases Nat.lt_or_ge i i0 with h1 | h1
          · exact h1
          · have e : i = i0 := by omega
            have h2 := hkk e
            subst e
            have e2 : l = l0 := by have := hl.out; rw [hi0.out] at this; injection this with this; exact this.symm
            rw [e2] at hkg
            omega
        clear hkk
        go_wp2_with fail
        go_roundw
        case rel => exact ⟨i + 1, by omega, by go_num, by trivial⟩
        case measure => simp [intOf]; omega

end Go.Proofs.YtdmkbcbgjdmgdaaGreatDoor

namespace Go.Proofs.YtdmkbcbgjdmgdaaGreatDoor
open Go.RowKit
set_option linter.unusedVariables false

theorem step_append_own {P : Program} {ops : Array Oper} {o : Oper} {a : Act} {w : World} {K : Act → World → Prop} {Q : Exit → Act → World → Prop} {E : Prop}
    (hg : o.guard = none) (s x : Operand) (t : TypeId) (hop : o.op = Op.call { callee := Callee.builtin Builtin.append, args := #[s, x], argTypes := #[t, t] })
    (base : Nat) (e : TypeId) (i : TypeInfo) (z : Value) (size bytes : Nat) (h1 : P.underlying t = some (.slice e)) (h2 : P.info? e = some i) (h3 : i.zero = some z) (h4 : i.size = size) (h5 : i.bytes = bytes) (h6 : z.cells.size = size) (h7 : 0 < size)
    (v : Value) (n : Nat) (xs : List Value) (hs : a.eval s = v) (hown : w.ownsRow base e size v n xs)
    (ad : Addr) (m c : Nat) (news : List Value) (hx : a.eval x = .slice (some ad) m c) (hn : news.length = m * size) (hc : ∀ j u, news[j]? = some u → w.cell? (ad.add j) = some u) (h1c : ∀ u ∈ news, u.oneCell' = true)
    (b1 : n + m ≤ maxLen) (b2 : (n + m) * bytes ≤ 140737488355328) (hb : base ≤ w.heap.size)
    (hK : ∀ v' w', w'.ownsRow base e size v' (n + m) (xs ++ news) → w.grownBy w' v.ownBlock → K (a.put o.dst v') w') :
    if Region.wanted o (yielded ops a.tmps) = true then Oper.wp P o a w K Q else E := by
  have hw : Region.wanted o (yielded ops a.tmps) = true := by simp [Region.wanted, hg]
  rw [if_pos hw]
  obtain ⟨v', w', hrun, r1, r2, _⟩ := run_append_own (P := P) w base t o.type e i z size bytes h1 h2 h3 h4 h5 h6 h7 v n xs hown ad m c news hn hc h1c b1 b2 hb
  unfold Oper.wp
  simp [execOp, hop, resolve, invoke, builtin, hs, hx, hrun, Result.andThen]
  exact hK v' w' r1 r2

theorem infoInts : (Tryz.prog.info? 47).map (fun i => (i.zero, i.size, i.bytes)) = some (some (.slice none 0 0), 1, 24) := by kernel_rfl

/-- A block holds these nodes' items from a place on. -/
def Ib (w : World) (g o : Nat) (l : List Nat) : Prop := ∃ cs fr, w.heap[g]? = some (.cells cs 3 fr) ∧ ∀ j d, l[j]? = some d → cs[o + j]? = some (itm d)

theorem Ib.keep {w w' : World} {g o : Nat} {l : List Nat} (h : Ib w g o l) (k : Keep w w') : Ib w' g o l := by
  obtain ⟨cs, fr, h1, h2⟩ := h
  exact ⟨cs, fr, k g _ _ _ h1 (by decide) (by decide), h2⟩

theorem Ib.cell {w : World} {g o : Nat} {l : List Nat} (h : Ib w g o l) {j d : Nat} (hj : l[j]? = some d) : w.cell? ⟨g, o + j, none⟩ = some (itm d) := by
  obtain ⟨cs, fr, h1, h2⟩ := h
  unfold World.cell?
  rw [h1]
  exact h2 j d hj

/-- A row to be read. -/
def Ro (w : World) (u : Value) (l : List Nat) : Prop := ∃ g o cap, u = .slice (some ⟨g, o, none⟩) l.length cap ∧ l.length ≤ cap ∧ cap ≤ maxLen ∧ Ib w g o l

theorem Ro.keep {w w' : World} {u : Value} {l : List Nat} (h : Ro w u l) (k : Keep w w') : Ro w' u l := by
  obtain ⟨g, o, cap, h1, h2, h3, h4⟩ := h
  exact ⟨g, o, cap, h1, h2, h3, h4.keep k⟩

theorem Ro.below {w w' : World} {u : Value} {l : List Nat} (h : Ro w u l) (hb : Below w.heap.size w w') : Ro w' u l := h.keep (Keep.ofBelow hb)

/-- What is one's own can be read. -/
theorem ro_of_own {w : World} {base : Nat} {u : Value} {l : List Nat} (h : w.ownsRow base 3 1 u l.length (l.map itm)) (hl : l ≠ []) : Ro w u l := by
  rcases h.2 with ⟨rfl, hn⟩ | ⟨g, cap, cur, rfl, h1, h2, h3, h4, h5, h6⟩
  · exact absurd (List.eq_nil_of_length_eq_zero hn) hl
  · refine ⟨g, 0, cap, rfl, h3, h4, cur, _, h2, fun j d hd => ?_⟩
    have hj := (List.getElem?_eq_some_iff.1 hd).1
    have h7 : (cur.toList.take (l.length * 1))[j]? = some (itm d) := by rw [h6, List.getElem?_map, hd]; rfl
    rw [List.getElem?_take, if_pos (by omega)] at h7
    rw [Nat.zero_add]
    simpa using h7

/-- Part of a row: up to a place, from it on. -/
theorem Ro.parts {w : World} {g o cap : Nat} {l : List Nat} {M : Nat} (h : Ib w g o l) (j : Nat) : Ib w g o (l.take j) ∧ Ib w g (o + j) (l.drop j) := by
  obtain ⟨cs, fr, h1, h2⟩ := h
  refine ⟨⟨cs, fr, h1, fun i d hd => ?_⟩, ⟨cs, fr, h1, fun i d hd => ?_⟩⟩
  · rw [List.getElem?_take] at hd
    split at hd
    · exact h2 i d hd
    · cases hd
  · rw [List.getElem?_drop] at hd
    rw [Nat.add_assoc]
    exact h2 (j + i) d hd

theorem Ib.sl {w : World} {g o : Nat} {l : List Nat} (h : Ib w g o l) : Sl w ⟨g, o, none⟩ l := fun j u hu => by
  rw [List.getElem?_map] at hu
  obtain ⟨d, hd, rfl⟩ := Option.map_eq_some_iff.1 hu
  rw [show (⟨g, o, none⟩ : Addr).add j = ⟨g, o + j, none⟩ from by unfold Addr.add; split <;> simp_all]
  exact h.cell hd

/-- Rows of rows to be read. -/
def Rf (w : World) (x : Value) (ls : List (List Nat)) : Prop := ∃ b cap cs fr, x = .slice (some ⟨b, 0, none⟩) ls.length cap ∧ w.heap[b]? = some (.cells cs 47 fr) ∧ ∀ (i : Nat) (l : List Nat), ls[i]? = some l → ∃ u, cs[i]? = some u ∧ Ro w u l

theorem Rf.keep {w w' : World} {x : Value} {ls : List (List Nat)} (h : Rf w x ls) (k : Keep w w') : Rf w' x ls := by
  obtain ⟨b, cap, cs, fr, h1, h2, h3⟩ := h
  refine ⟨b, cap, cs, fr, h1, k b _ _ _ h2 (by decide) (by decide), fun i l hi => ?_⟩
  obtain ⟨u, h4, h5⟩ := h3 i l hi
  exact ⟨u, h4, h5.keep k⟩

theorem Rf.below {w w' : World} {x : Value} {ls : List (List Nat)} (h : Rf w x ls) (hb : Below w.heap.size w w') : Rf w' x ls := h.keep (Keep.ofBelow hb)

/-- Rows of rows of one's own. -/
def Rg (w : World) (base : Nat) (v : Value) (ls : List (List Nat)) : Prop := ∃ us : List Value, us.length = ls.length ∧ w.ownsRow base 47 1 v ls.length us ∧ (∀ (i : Nat) (l : List Nat) (u : Value), ls[i]? = some l → us[i]? = some u → Ro w u l)

theorem rf_of_own {w : World} {base : Nat} {v : Value} {ls : List (List Nat)} (h : Rg w base v ls) (hl : ls ≠ []) : Rf w v ls := by
  obtain ⟨us, hus, ho, hr⟩ := h
  rcases ho.2 with ⟨rfl, hn⟩ | ⟨g, cap, cur, rfl, h1, h2, h3, h4, h5, h6⟩
  · exact absurd (List.eq_nil_of_length_eq_zero hn) hl
  · refine ⟨g, cap, cur, _, rfl, h2, fun i l hi => ?_⟩
    have hil := (List.getElem?_eq_some_iff.1 hi).1
    obtain ⟨u, hu⟩ : ∃ u, us[i]? = some u := ⟨_, List.getElem?_eq_getElem (by rw [hus]; exact hil)⟩
    refine ⟨u, ?_, hr i l u hi hu⟩
    have h7 : (cur.toList.take (ls.length * 1))[i]? = some u := by rw [h6]; exact hu
    rw [List.getElem?_take, if_pos (by omega)] at h7
    simpa using h7

/-- Rows stay when a row of rows grows. -/
theorem Ro.grown {w w' : World} {base n : Nat} {v u : Value} {xs : List Value} {l : List Nat} (hu : Ro w u l) (ho : w.ownsRow base 47 1 v n xs) (hg : w.grownBy w' v.ownBlock) : Ro w' u l := by
  obtain ⟨g, o, c, h1, h2, h3, cs, fr, h4, h5⟩ := hu
  refine ⟨g, o, c, h1, h2, h3, cs, fr, ?_, h5⟩
  refine (hg.block g (Array.getElem?_eq_some_iff.1 h4).1 (fun e => ?_)).trans h4
  rcases ho.2 with ⟨rfl, _⟩ | ⟨g', cap, cur, rfl, _, hgg, _⟩
  · simp [Value.ownBlock] at e
  · simp [Value.ownBlock] at e
    subst e
    rw [hgg] at h4
    injection h4 with h4
    injection h4 with _ h4
    exact absurd h4 (by decide)

/-- Rows more are one's own. -/
theorem Rg.push {w w' : World} {base : Nat} {v v' : Value} {ls nl : List (List Nat)} {us nu : List Value} (hus : us.length = ls.length) (hr : ∀ (i : Nat) (l : List Nat) (u : Value), ls[i]? = some l → us[i]? = some u → Ro w u l) (hnu : nu.length = nl.length) (hn : ∀ (i : Nat) (l : List Nat) (u : Value), nl[i]? = some l → nu[i]? = some u → Ro w u l) (ho0 : w.ownsRow base 47 1 v ls.length us) (hg : w.grownBy w' v.ownBlock) (ho : w'.ownsRow base 47 1 v' (ls.length + nl.length) (us ++ nu)) : Rg w' base v' (ls ++ nl) := by
  refine ⟨us ++ nu, by simp [hus, hnu], by rw [List.length_append]; exact ho, fun i l u hi hu => ?_⟩
  by_cases h : i < ls.length
  · rw [List.getElem?_append_left h] at hi
    rw [List.getElem?_append_left (by rw [hus]; exact h)] at hu
    exact (hr i l u hi hu).grown ho0 hg
  · rw [List.getElem?_append_right (by omega)] at hi
    rw [List.getElem?_append_right (by rw [hus]; omega), hus] at hu
    exact (hn _ l u hi hu).grown ho0 hg

/-- A new row of rows of one or two, its cells. -/
theorem new_cells {w : World} {b : Nat} {us : List Value} {t : TypeId} {fr : Nat × Nat} (h : w.heap[b]? = some (.cells us.toArray t fr)) : ∀ j u, us[j]? = some u → w.cell? ((⟨b, 0, none⟩ : Addr).add j) = some u := fun j u hu => by
  rw [show (⟨b, 0, none⟩ : Addr).add j = ⟨b, j, none⟩ from by unfold Addr.add; split <;> simp_all]
  unfold World.cell?
  rw [h]
  simpa using hu

section
variable {K : Nat} {ls : List (List Nat)} {seq : Nat → List Nat}

theorem Rf.find {w : World} {x : Value} (h : Rf w x ls) (t : Tie K ls seq) (p : Part K seq) (hK : K ≤ 1000) (a : Nat) (ha : a < K) :
    Calls Tryz.prog 39 #[x, .int .i64 (a : Int)] w fun e w' => ∃ i k : Nat, e = .returned (.tuple #[.int .i64 (i : Int), .int .i64 (k : Int)]) ∧ ls[i]? = some (seq (a + 1)) ∧ (seq (a + 1))[k]? = some (a + 1) ∧ w = w' := by
  obtain ⟨b, cap, cs, fr, rfl, h2, h3⟩ := h
  obtain ⟨i, hi⟩ := List.getElem?_of_mem (t.into (a + 1) (by omega) (by omega))
  obtain ⟨k, hk⟩ := List.getElem?_of_mem (p.self (a + 1) (by omega))
  have hown : ∀ l, l ∈ ls → ∃ z, z ≠ 0 ∧ z ≤ K ∧ l = seq z := fun l hl => by
    obtain ⟨z, z1, z2, rfl⟩ := t.out l hl
    exact ⟨z, by omega, z2, rfl⟩
  refine (rfind_ok b cap i k a ls _ w (fun j l hj => ?_) hi hk (fun j l hj hl hm => ?_) (fun j hj e => ?_) (fun l hl => ?_) (by have := t.len; omega) (fun l hl => ?_)).mono ?_
  · obtain ⟨u, hu, g, o, c, rfl, _, _, hI⟩ := h3 j l hj
    refine ⟨g, o, c, ?_, fun m d hd => ?_⟩
    · unfold World.cell?
      rw [h2]
      exact hu
    · rw [hI.cell hd]
      unfold itm; congr 2; omega
  · obtain ⟨z, z0, zK, rfl⟩ := hown l (List.mem_of_getElem? hl)
    have e := (p.mem z (a + 1) z0 hm).1
    rw [← e] at hl
    have := t.alone hl hi
    omega
  · have := (List.getElem?_inj (List.getElem?_eq_some_iff.1 hk).1 (p.nd (a + 1) (by omega))).1 (hk.trans e.symm)
    omega
  · obtain ⟨z, z0, zK, rfl⟩ := hown l hl
    exact fun hm => (p.mem z 0 z0 hm).2 rfl
  · obtain ⟨z, z0, zK, rfl⟩ := hown l hl
    have := p.few z0 zK
    omega
  · rintro e w' ⟨rfl, rfl⟩
    exact ⟨i, k, rfl, hi, hk, rfl⟩
end

set_option maxRecDepth 100000 in
set_option maxHeartbeats 2000000 in
theorem rnew_ok (K : Nat) (w : World) (hK1 : 1 ≤ K) (hK : K ≤ 1000) :
    Calls Tryz.prog 31 #[.int .i64 (K : Int)] w fun e w' => ∃ x, e = .returned x ∧ Rf w' x ((List.range K).map (fun i => [i + 1])) ∧ Below w.heap.size w w' := by
  obtain ⟨i1, hif, hz0, hz1, hz2⟩ := info_parts infoInts
  have st0 : Hid (Rg w w.heap.size (.slice none 0 0) ((List.range 0).map (fun i => [i + 1])) ∧ Below w.heap.size w w) := hid ⟨⟨[], rfl, World.ownsRow_nil _ _ _ _, fun i l u hi => by simp at hi⟩, Below.refl _ _⟩
  go_enter Tryz.func31, Tryz.ntmps31
  go_wp2_with fail
  go_loopw [3, 4] (fun o u wr => ∃ i : Nat, i ≤ K ∧ u = .int .i64 (i : Int) ∧ Hid (Rg wr w.heap.size o ((List.range i).map (fun i => [i + 1])) ∧ Below w.heap.size w wr)) (fun _ u _ => K - (intOf u).toNat)
  case atStart => exact ⟨0, by omega, by go_num, st0⟩
  case round =>
    clear st0
    obtain ⟨i, hi, rfl, hst⟩ := hrel
    rcases Nat.lt_or_ge i K with hiK | hiK
    · obtain ⟨⟨us, hus, ho, hr⟩, hb⟩ := hst.out
      rw [show ((List.range i).map (fun i => [i + 1])).length = i from by simp] at ho hus
      have hsz := hb.size
      obtain ⟨wa, hwa⟩ : ∃ wa, (wr.alloc (.cells #[.int .i64 (i : Int)] 3)).alloc (.cells #[.slice (some ⟨wr.heap.size, 0, none⟩) 1 1] 47) = wa := ⟨_, rfl⟩
      have ba : Below wr.heap.size wr wa := by rw [← hwa]; exact ((Below.refl _ _).alloc (Nat.le_refl _) _).alloc (by simp) _
      have hsza : wa.heap.size = wr.heap.size + 1 + 1 := by rw [← hwa]; simp
      have hn1 : wa.heap[wr.heap.size]? = some (.cells #[.int .i64 (i : Int)] 3 (0, 0)) := by
        rw [← hwa, Below.heap_alloc _ _ _ (by simp)]
        exact heap_alloc_new wr _
      have hn2 : wa.heap[wr.heap.size + 1]? = some (.cells #[.slice (some ⟨wr.heap.size, 0, none⟩) 1 1] 47 (0, 0)) := by
        rw [← hwa]
        have := heap_alloc_new (wr.alloc (.cells #[.int .i64 (i : Int)] 3)) (.cells #[.slice (some ⟨wr.heap.size, 0, none⟩) 1 1] 47)
        rw [show (wr.alloc (.cells #[.int .i64 (i : Int)] 3)).heap.size = wr.heap.size + 1 from by simp] at this
        exact this
      have hRo : Ro wa (.slice (some ⟨wr.heap.size, 0, none⟩) 1 1) [i + 1] := ⟨wr.heap.size, 0, 1, rfl, by simp, by unfold maxLen; omega, _, _, hn1, fun j d hd => by
        match j, (List.getElem?_eq_some_iff.1 hd).1, hd with
        | 0, _, hd => simp at hd; subst hd; simp [itm]⟩
      have hnews : ∀ j u, [Value.slice (some ⟨wr.heap.size, 0, none⟩) 1 1][j]? = some u → wa.cell? ((⟨wr.heap.size + 1, 0, none⟩ : Addr).add j) = some u := fun j u hu => by
        match j, (List.getElem?_eq_some_iff.1 hu).1, hu with
        | 0, _, hu =>
          simp at hu; subst hu
          rw [show (⟨wr.heap.size + 1, 0, none⟩ : Addr).add 0 = ⟨wr.heap.size + 1, 0, none⟩ from by unfold Addr.add; simp]
          unfold World.cell?
          rw [hn2]
          rfl
      have hoa : wa.ownsRow w.heap.size 47 1 u3 i us := by rw [← hwa]; exact (ho.alloc _).alloc _
      replace hr := hid hr
      replace hRo := hid hRo
      clear hst hn1 hn2
      go_wp2_with (at_builtin; (try rw [hwa]); refine wpList_append_own wa rfl (.tmp 10) (.tmp 13) 29 rfl w.heap.size 47 i1 _ 1 24 Tryz.underlying29 hif hz0 hz1 hz2 rfl (by decide) _ _ _ rfl hoa ⟨wr.heap.size + 1, 0, none⟩ 1 1 [.slice (some ⟨wr.heap.size, 0, none⟩) 1 1] rfl rfl hnews (by simp [Value.oneCell']) (by unfold maxLen; omega) (by omega) (by omega) ?_; intro v5 w5 ho5 hg5 _; refine Hid.out ?_)
      have hbw : Below w.heap.size w w5 := below_grown (hb.trans (ba.mono hb.size)) (Nat.le_refl _) hoa (Nat.le_refl _) hg5
      have st5 : Hid (Rg w5 w.heap.size v5 ((List.range (i + 1)).map (fun i => [i + 1])) ∧ Below w.heap.size w w5) := hid ⟨by
        rw [List.range_succ, List.map_append]
        have hl : ((List.range i).map (fun i => [i + 1])).length = i := by simp
        refine Rg.push (us := us) (nu := [.slice (some ⟨wr.heap.size, 0, none⟩) 1 1]) (w := wa) (v := u3) (by rw [hl]; exact hus) (fun j l u hj hu => (hr.out j l u hj hu).below ba) rfl (fun j l u hj hu => ?_) (by rw [hl]; exact hoa) hg5 (by rw [hl]; exact ho5)
        match j, (List.getElem?_eq_some_iff.1 hj).1, hj, hu with
        | 0, _, hj, hu =>
          simp at hj hu
          subst hj hu
          exact hRo.out, hbw⟩
      clear ho hoa ho5 hg5 hr hb hbw hRo ba hnews
      refine hid ?_
      go_wp2_with fail
      go_roundw
      case rel => exact ⟨i + 1, by omega, by go_num, st5⟩
      case measure => simp [intOf]; omega
    · obtain rfl : i = K := by omega
      have fin := hst
      clear hst
      go_wp2_with fail
      go_ret
      exact ⟨_, rfl, rf_of_own fin.out.1 (by simp; omega), fin.out.2⟩

end Go.Proofs.YtdmkbcbgjdmgdaaGreatDoor

namespace Go.Proofs.YtdmkbcbgjdmgdaaGreatDoor
open Go.RowKit
set_option linter.unusedVariables false

theorem Rg.more {w w' : World} {base : Nat} {v : Value} {ls : List (List Nat)} (h : Rg w base v ls) (hb : Below w.heap.size w w') : Rg w' base v ls := by
  obtain ⟨us, h1, h2, h3⟩ := h
  refine ⟨us, h1, ⟨h2.1, ?_⟩, fun i l u hi hu => (h3 i l u hi hu).below hb⟩
  rcases h2.2 with hn | ⟨g, cap, cur, rfl, hbg, hgg, rest⟩
  · exact .inl hn
  · exact .inr ⟨g, cap, cur, rfl, hbg, (hb.block g (Array.getElem?_eq_some_iff.1 hgg).1).trans hgg, rest⟩

theorem own_more {w w' : World} {base n size : Nat} {e : TypeId} {v : Value} {xs : List Value} (h2 : w.ownsRow base e size v n xs) (hb : Below w.heap.size w w') : w'.ownsRow base e size v n xs := by
  refine ⟨h2.1, ?_⟩
  rcases h2.2 with hn | ⟨g, cap, cur, rfl, hbg, hgg, rest⟩
  · exact .inl hn
  · exact .inr ⟨g, cap, cur, rfl, hbg, (hb.block g (Array.getElem?_eq_some_iff.1 hgg).1).trans hgg, rest⟩

theorem wo_len (ls : List (List Nat)) (a b : Nat) : (wo ls a b).length ≤ ls.length := by
  unfold wo
  rw [List.length_map]
  refine Nat.le_trans (List.length_filter_le _ _) ?_
  simp

set_option maxRecDepth 100000 in
set_option maxHeartbeats 2000000 in
theorem rwithout_ok (x : Value) (ls : List (List Nat)) (a b : Nat) (w : World) (hx : Rf w x ls) (hl : ls.length ≤ 1000) (ha : a ≤ 1000000) (hb1 : b ≤ 1000000) :
    Calls Tryz.prog 95 #[x, .int .i64 (a : Int), .int .i64 (b : Int)] w fun e w' => ∃ v, e = .returned v ∧ Rg w' w.heap.size v (wo ls a b) ∧ Below w.heap.size w w' := by
  obtain ⟨i1, hif, hz0, hz1, hz2⟩ := info_parts infoInts
  have hxh := hid hx
  obtain ⟨bo, capo, cs, fr, rfl, h2, h3⟩ := hx
  obtain ⟨M, hM⟩ : ∃ M, ls.length = M := ⟨_, rfl⟩
  rw [hM] at hl
  have st0 : Hid (Rg w w.heap.size (.slice none 0 0) (wo (ls.take 0) a b) ∧ Below w.heap.size w w) := hid ⟨⟨[], rfl, World.ownsRow_nil _ _ _ _, fun i l u hi => by simp [wo] at hi⟩, Below.refl _ _⟩
  have hfull : Hid (ls.take M = ls) := hid (List.take_of_length_le (by omega))
  replace h3 := hid h3
  replace h2 := hid h2
  have hMh := hid hM
  rw [hM]
  clear hM
  go_enter Tryz.func95, Tryz.ntmps95
  go_wp2_with fail
  go_loopw [7, 8] (fun o u wr => ∃ i : Nat, i ≤ M ∧ u = .int .i64 (i : Int) ∧ Hid (Rg wr w.heap.size o (wo (ls.take i) a b) ∧ Below w.heap.size w wr)) (fun _ u _ => M - (intOf u).toNat)
  case atStart => exact ⟨0, by omega, by go_num, st0⟩
  case round =>
    clear st0
    obtain ⟨i, hi, rfl, hst⟩ := hrel
    rcases Nat.lt_or_ge i M with hiM | hiM
    · obtain ⟨l, hli⟩ : ∃ l, ls[i]? = some l := ⟨_, List.getElem?_eq_getElem (by rw [hMh.out]; exact hiM)⟩
      have hnx := wo_next ls a b i l hli
      by_cases hc : i ≠ a ∧ i ≠ b
      · rw [if_pos hc] at hnx
        have t1 : ((i : Int) != (a : Int)) = true := by rw [bne_iff_ne]; omega
        have t2 : ((i : Int) != (b : Int)) = true := by rw [bne_iff_ne]; omega
        obtain ⟨⟨us, hus, ho, hr⟩, hb⟩ := hst.out
        obtain ⟨u, hu, hRu⟩ := h3.out i l hli
        have hcell : wr.cell? ⟨bo, i, none⟩ = some u := by
          unfold World.cell?
          rw [hb.block bo (Array.getElem?_eq_some_iff.1 h2.out).1, h2.out]
          exact hu
        have hRw := hRu.below hb
        obtain ⟨g, og, cg, hue, _⟩ := hRu
        subst hue
        obtain ⟨nl, hnl⟩ : ∃ nl, l.length = nl := ⟨_, rfl⟩
        rw [hnl] at hcell hRw
        replace hnl := hid hnl
        obtain ⟨n0, hn0⟩ : ∃ n0, (wo (ls.take i) a b).length = n0 := ⟨_, rfl⟩
        have hn1 : n0 ≤ 1000 := by rw [← hn0]; have := wo_len (ls.take i) a b; rw [List.length_take] at this; omega
        rw [hn0] at ho hus
        have hsz := hb.size
        obtain ⟨wa, hwa⟩ : ∃ wa, wr.alloc (.cells #[.slice (some ⟨g, og, none⟩) nl cg] 47) = wa := ⟨_, rfl⟩
        have ba : Below wr.heap.size wr wa := by rw [← hwa]; exact (Below.refl _ _).alloc (Nat.le_refl _) _
        have hsza : wa.heap.size = wr.heap.size + 1 := by rw [← hwa]; simp
        have hnews := new_cells (us := [Value.slice (some ⟨g, og, none⟩) nl cg]) (show wa.heap[wr.heap.size]? = some (.cells [Value.slice (some ⟨g, og, none⟩) nl cg].toArray 47 (0, 0)) from by rw [← hwa]; exact heap_alloc_new wr _)
        have hoa : wa.ownsRow w.heap.size 47 1 u7 n0 us := by rw [← hwa]; exact ho.alloc _
        have i1' : (0 : Int) ≤ (i : Int) := by omega
        have i2' : (i : Int) < (M : Int) := by omega
        replace hr := hid hr
        replace hRw := hid hRw
        replace hnx := hid hnx
        replace hn0 := hid hn0
        clear hst hli hu
        go_wp2_with (at_builtin; (try rw [hwa]); refine wpList_append_own wa rfl (.tmp 23) (.tmp 28) 29 rfl w.heap.size 47 i1 _ 1 24 Tryz.underlying29 hif hz0 hz1 hz2 rfl (by decide) u7 n0 us rfl hoa ⟨wr.heap.size, 0, none⟩ 1 1 [Value.slice (some ⟨g, og, none⟩) nl cg] rfl rfl hnews (by simp [Value.oneCell']) (by unfold maxLen; omega) (by omega) (by omega) ?_; intro v5 w5 ho5 hg5 _; refine Hid.out ?_)
        have hbw : Below w.heap.size w w5 := below_grown (hb.trans (ba.mono hb.size)) (Nat.le_refl _) hoa (Nat.le_refl _) hg5
        have st5 : Hid (Rg w5 w.heap.size v5 (wo (ls.take (i + 1)) a b) ∧ Below w.heap.size w w5) := hid ⟨by
          rw [hnx.out]
          refine Rg.push (us := us) (nu := [Value.slice (some ⟨g, og, none⟩) nl cg]) (w := wa) (v := u7) (by rw [hn0.out]; exact hus) (fun j l' u' hj hu' => (hr.out j l' u' hj hu').below ba) rfl (fun j l' u' hj hu' => ?_) (by rw [hn0.out]; exact hoa) hg5 (by rw [hn0.out]; exact ho5)
          match j, (List.getElem?_eq_some_iff.1 hj).1, hj, hu' with
          | 0, _, hj, hu' =>
            simp at hj hu'
            subst hj hu'
            exact hRw.out.below ba, hbw⟩
        clear ho hoa ho5 hg5 hr hb hbw hRw ba hnews hcell
        refine hid ?_
        go_wp2_with fail
        go_roundw
        case rel => exact ⟨i + 1, by omega, by go_num, st5⟩
        case measure => simp [intOf]; omega
      · rw [if_neg hc, List.append_nil] at hnx
        have st5 : Hid (Rg wr w.heap.size u7 (wo (ls.take (i + 1)) a b) ∧ Below w.heap.size w wr) := hid (by rw [hnx]; exact hst.out)
        have hcc : i = a ∨ (i ≠ a ∧ i = b) := by omega
        clear hst hli hnx hc
        rcases hcc with e | ⟨e1, e2⟩
        · have t1 : ((i : Int) != (a : Int)) = false := by rw [e]; simp
          go_wp2_with fail
          go_roundw
          case rel => exact ⟨i + 1, by omega, by go_num, st5⟩
          case measure => simp [intOf]; omega
        · have t1 : ((i : Int) != (a : Int)) = true := by rw [bne_iff_ne]; omega
          have t2 : ((i : Int) != (b : Int)) = false := by rw [e2]; simp
          go_wp2_with fail
          go_roundw
          case rel => exact ⟨i + 1, by omega, by go_num, st5⟩
          case measure => simp [intOf]; omega
    · obtain rfl : i = M := by omega
      have fin : Hid (Rg wr w.heap.size u7 (wo ls a b) ∧ Below w.heap.size w wr) := hid (by have := hst.out; rw [hfull.out] at this; exact this)
      clear hst
      go_wp2_with fail
      go_ret
      exact ⟨_, rfl, fin.out⟩

set_option maxRecDepth 100000 in
set_option maxHeartbeats 2000000 in
theorem rfrom_ok (u : Value) (l : List Nat) (k : Nat) (w : World) (hu : Ro w u l) (hk : k < l.length) (hl : l.length ≤ 1000000) :
    Calls Tryz.prog 69 #[u, .int .i64 (k : Int)] w fun e w' => ∃ v, e = .returned v ∧ w'.ownsRow w.heap.size 3 1 v (l.drop k ++ l.take k).length ((l.drop k ++ l.take k).map itm) ∧ Below w.heap.size w w' := by
  obtain ⟨i0, hif, hz0, hz1, hz2⟩ := info_parts infoInt
  obtain ⟨g, o, cap, rfl, hc1, hc2, hI⟩ := hu
  have hId : Ib w.drew g o l := hI.keep (Keep.ofBelow (Below.refl _ _).drew)
  obtain ⟨p1, p2⟩ := Ro.parts (cap := cap) (M := k) hId k
  have s1 := p2.sl
  have s2 := p1.sl
  obtain ⟨M, hM⟩ : ∃ M, l.length = M := ⟨_, rfl⟩
  have hd : (l.drop k).length = M - k := by rw [List.length_drop, hM]
  have ht : (l.take k).length = k := by rw [List.length_take]; omega
  rw [hM] at hk hl hc1 ⊢
  have i1 : (0 : Int) ≤ (k : Int) := by omega
  have i2 : (k : Int) ≤ (M : Int) := by omega
  have i3 : (k : Int) ≤ (cap : Int) := by omega
  have i4 : cap ≠ k := by omega
  have hc3 : cap ≤ 9223372036854775807 := by unfold maxLen at hc2; omega
  have hszd : w.drew.heap.size = w.heap.size := rfl
  have hfin : Hid (∀ (v : Value) (w' : World), w'.ownsRow w.heap.size 3 1 v (0 + (M - k) + k) (([] ++ (l.drop k).map itm) ++ (l.take k).map itm) → w'.ownsRow w.heap.size 3 1 v (l.drop k ++ l.take k).length ((l.drop k ++ l.take k).map itm)) := hid (fun v w' h => by
    rw [List.length_append, hd, ht, List.map_append, show M - k + k = 0 + (M - k) + k by omega]
    exact h)
  have hd' : ((l.drop k).map itm).length = (M - k) * 1 := by rw [List.length_map, hd]; omega
  have ht' : ((l.take k).map itm).length = k * 1 := by rw [List.length_map, ht]; omega
  replace hd := hid hd
  replace ht := hid ht
  clear hM hI hId p1 p2
  go_enter Tryz.func69, Tryz.ntmps69
  go_wp2_with fail
  go_region_held3 (fun w' => True) (first | exact True.intro | assumption | go_keep) (first
    | (refine step_append_own rfl (.tmp 6) (.tmp 9) 47 rfl w.heap.size 3 i0 _ 1 8 Tryz.underlying47 hif hz0 hz1 hz2 rfl (by decide) (.slice none 0 0) 0 [] (by rfl) (World.ownsRow_nil _ _ _ _) ⟨g, o + k, none⟩ (M - k) (cap - k) ((l.drop k).map itm) (by rfl) hd' s1 (itm_one _) (by unfold maxLen; omega) (by omega) (Nat.le_refl _) ?_; intro v1 w1 ho1 hg1; have b1 := below_grown (Below.refl w.heap.size w.drew) (Nat.le_refl _) (World.ownsRow_nil w.drew w.heap.size 3 1) (Nat.le_refl _) hg1; have s2' := s2.below b1; have hsz1 := b1.size)
    | (refine step_append_own rfl (.tmp 10) (.tmp 13) 47 rfl w.heap.size 3 i0 _ 1 8 Tryz.underlying47 hif hz0 hz1 hz2 rfl (by decide) v1 (0 + (M - k)) ([] ++ (l.drop k).map itm) (by rfl) ho1 ⟨g, o, none⟩ k cap ((l.take k).map itm) (by rfl) ht' s2' (itm_one _) (by unfold maxLen; omega) (by omega) hsz1 ?_; intro v2 w2 ho2 hg2; have b2 := below_grown b1 (Nat.le_refl _) ho1 (Nat.le_refl _) hg2; have fin := hid (And.intro (hfin.out v2 w2 ho2) ((Below.refl w.heap.size w).drew.trans b2)); clear ho2 hg2 b2))
  all_goals
    go_wp2_with fail
    go_ret
    exact ⟨_, rfl, fin.out⟩

end Go.Proofs.YtdmkbcbgjdmgdaaGreatDoor

namespace Go.Proofs.YtdmkbcbgjdmgdaaGreatDoor
open Go.RowKit
set_option linter.unusedVariables false

theorem Rf.opened {w : World} {x : Value} {ls : List (List Nat)} (h : Rf w x ls) : ∃ b cap, x = .slice (some ⟨b, 0, none⟩) ls.length cap ∧ ∀ (i : Nat) (l : List Nat), ls[i]? = some l → ∃ g o c, l.length ≤ c ∧ c ≤ maxLen ∧ ∀ y, Below w.heap.size w y → y.cell? ⟨b, i, none⟩ = some (.slice (some ⟨g, o, none⟩) l.length c) ∧ Ro y (.slice (some ⟨g, o, none⟩) l.length c) l ∧ Ib y g o l := by
  obtain ⟨b, cap, cs, fr, rfl, h2, h3⟩ := h
  refine ⟨b, cap, rfl, fun i l hi => ?_⟩
  obtain ⟨u, hu, hR⟩ := h3 i l hi
  have hR' := hR
  obtain ⟨g, o, c, rfl, h4, h5, h6⟩ := hR
  refine ⟨g, o, c, h4, h5, fun y hy => ⟨?_, hR'.below hy, h6.keep (Keep.ofBelow hy)⟩⟩
  unfold World.cell?
  rw [hy.block b (Array.getElem?_eq_some_iff.1 h2).1, h2]
  exact hu

/-- One more row, or two, behind rows of one's own. -/
theorem rows_append {w0 w1 wa w2 : World} {base : Nat} {v v' : Value} {ls nl : List (List Nat)} {us nu : List Value} (hB : base ≤ w0.heap.size) (hb1 : Below base w0 w1) (hus : us.length = ls.length) (ho : w1.ownsRow base 47 1 v ls.length us) (hr : ∀ (i : Nat) (l : List Nat) (u : Value), ls[i]? = some l → us[i]? = some u → Ro w1 u l) (hnu : nu.length = nl.length) (hn : ∀ (i : Nat) (l : List Nat) (u : Value), nl[i]? = some l → nu[i]? = some u → Ro wa u l)
    (ba : Below w1.heap.size w1 wa) (ho2 : w2.ownsRow base 47 1 v' (ls.length + nl.length) (us ++ nu)) (hg : wa.grownBy w2 v.ownBlock) (hne : nl ≠ []) : Rf w2 v' (ls ++ nl) ∧ Below base w0 w2 := by
  have hoa := own_more ho ba
  have hb2 : Below base w0 w2 := below_grown (hb1.trans (ba.mono (Nat.le_trans hB hb1.size))) hB hoa (Nat.le_refl _) hg
  exact ⟨rf_of_own (Rg.push (w := wa) hus (fun i l u hi hu => (hr i l u hi hu).below ba) hnu hn hoa hg ho2) (by simp [hne]), hb2⟩

section
variable {K : Nat} {ls : List (List Nat)} {seq : Nat → List Nat}

theorem rot_from (p : Part K seq) {x k : Nat} (hx : x ≠ 0) (hk : (seq x)[k]? = some x) : (seq x).drop k ++ (seq x).take k = rot (seq x) x := (rot_at (p.nd x hx) hk).symm

set_option maxRecDepth 100000 in
set_option maxHeartbeats 1000000 in
theorem rwalk_ok (x : Value) (a : Nat) (w : World) (hx : Rf w x ls) (t : Tie K ls seq) (p : Part K seq) (hK : K ≤ 1000) (ha : a < K) :
    Calls Tryz.prog 40 #[x, .int .i64 (a : Int)] w fun e w' => ∃ v, e = .returned v ∧ w'.ownsRow w.heap.size 3 1 v (rot (seq (a + 1)) (a + 1)).length ((rot (seq (a + 1)) (a + 1)).map itm) ∧ Below w.heap.size w w' := by
  have hf := hid (hx.find t p hK a ha)
  have hlen := t.len
  obtain ⟨b, cap, rfl, hop⟩ := hx.opened
  obtain ⟨M, hM⟩ : ∃ M, ls.length = M := ⟨_, rfl⟩
  rw [hM] at hf hlen ⊢
  go_enter Tryz.func40, Tryz.ntmps40
  go_wp2_with fail
  refine hf.out.mono ?_
  rintro e w1 ⟨i, k, rfl, hi, hk, rfl⟩
  have hil := (List.getElem?_eq_some_iff.1 hi).1
  have hkl := (List.getElem?_eq_some_iff.1 hk).1
  have hfew := p.few (x := a + 1) (by omega) (by omega)
  obtain ⟨g, o, c, hc1, hc2, hcy⟩ := hop i _ hi
  obtain ⟨cell, hRo, _⟩ := hcy w (Below.refl _ _)
  have hfr := rfrom_ok _ _ k w hRo hkl (by omega)
  rw [rot_from p (by omega) hk] at hfr
  obtain ⟨nl, hnl⟩ : ∃ nl, (seq (a + 1)).length = nl := ⟨_, rfl⟩
  rw [hnl] at hfr cell
  replace hfr := hid hfr
  have i1 : (0 : Int) ≤ (i : Int) := by omega
  have i2 : (i : Int) < (M : Int) := by omega
  clear hf hop hcy hRo hi hk hM hnl
  go_wp2_with fail
  refine hfr.out.mono ?_
  rintro e w3 ⟨v3, rfl, ho3, b3⟩
  have fin := hid (And.intro ho3 b3)
  clear ho3 b3 hfr
  go_wp2_with fail
  go_ret
  exact ⟨v3, rfl, fin.out⟩



end

end Go.Proofs.YtdmkbcbgjdmgdaaGreatDoor
