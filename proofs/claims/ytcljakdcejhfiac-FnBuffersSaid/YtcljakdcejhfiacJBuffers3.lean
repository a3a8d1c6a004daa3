import Derived.Test.YtcljakdcejhfiacJBuffers2
namespace Go.Proofs.Ytcljakdcejhfiac
open Go.RowKit
theorem infoBoolD : (Try.prog.info? 4).map (fun i => (i.zero, i.size, i.bytes)) = some (some (.bool false), 1, 1) := by kernel_rfl
def dbits (xs : List Nat) : List Bool := (List.range (nxt xs 0 % 40)).map fun i => ((nxt xs (1 + i) : Nat) : Int) % 2 == 1
theorem dbits_len (xs : List Nat) : (dbits xs).length = nxt xs 0 % 40 := by simp [dbits]
theorem dbits_snoc (xs : List Nat) (k : Nat) (h : k < nxt xs 0 % 40) : (dbits xs).take (k + 1) = (dbits xs).take k ++ [((nxt xs (1 + k) : Nat) : Int) % 2 == 1] := by
  rw [List.take_succ_eq_append_getElem (by rw [dbits_len]; exact h)]
  simp [dbits]
theorem bls_append (xs ys : List Bool) : bls (xs ++ ys) = bls xs ++ bls ys := by simp [bls]
theorem below_grown {a w w' : World} {g : Nat} (hb : Below a.heap.size a w) (hg : w.grownBy w' (some g)) (h : a.heap.size ≤ g) : Below a.heap.size a w' := hb.grown hg hb.size (fun p hp => by simp at hp; omega)
set_option maxRecDepth 1000000 in
set_option maxHeartbeats 1000000 in
theorem drawPackBits_any (a : Option Addr) (cap : Nat) (xs : List Nat) (w : World) (hr : Rd w a (byt xs)) (hcap : xs.length ≤ cap) (hnil : a = none → cap = 0) (hl : xs.length ≤ 1048576) (hx : ∀ x ∈ xs, x < 256) :
    Calls Try.prog 23 #[.slice a xs.length cap] w fun e w' => ∃ a' c', e = .returned (.slice a' (dbits (xs.take 600)).length c') ∧ w'.ownsRow w.heap.size 4 1 (.slice a' (dbits (xs.take 600)).length c') (dbits (xs.take 600)).length (bls (dbits (xs.take 600))) ∧ Below w.heap.size w w' := by
  obtain ⟨i0, hi, hz0, hz1, hz2⟩ := info_parts infoBoolD
  obtain ⟨ys, hys⟩ : ∃ ys, ys = xs.take 600 := ⟨_, rfl⟩
  have HX : Hid (∀ x ∈ ys, x < 256) := hid (by rw [hys]; exact take_lt hx 600)
  have HL : Hid (ys.length ≤ 1048576) := hid (by rw [hys]; exact take_len xs)
  rw [← hys]
  have HY := hid hys
  clear hys
  go_enter Try.func23, Try.ntmps23
  go_wp2_with fail
  refine (open_any a cap xs w hr hcap hnil hl).mono ?_
  rintro e w1 ⟨a1, c1, rfl, r1, hab, b1, hsz⟩
  rw [← HY.out] at r1 hab
  have HB1 := hid b1
  have HAB := hid hab
  have HR1 := hid r1
  have HS := hid hsz
  clear hr hx hnil hcap hl hab r1 b1 hsz
  go_wp2_with fail
  refine (next_any w.heap.size c1 0 a1 ys w1 HR1.out HL.out HX.out).mono ?_
  rintro e w2 ⟨rfl, r2, g2⟩
  have HR2 := hid r2
  have HB2 := hid (below_grown HB1.out g2 (Nat.le_refl _))
  have hS2 : w.heap.size + 1 ≤ w2.heap.size := by have := g2.size; have := HS.out; omega
  clear r2 g2
  obtain ⟨n, hn⟩ : ∃ n, n = nxt ys 0 % 40 := ⟨_, rfl⟩
  have hnm : ((nxt ys 0 : Nat) : Int) % 40 = (n : Int) := by omega
  have hn40 : n ≤ 40 := by omega
  have HN := hid hn
  clear hn
  go_wp2
  rw [hnm]
  clear hnm
  go_loopw [5, 6] (fun v i wr => ∃ k : Nat, k ≤ n ∧ i = .int .i64 k ∧ wr.ownsRow (w.heap.size + 1) 4 1 v k (bls ((dbits ys).take k)) ∧ Rdr wr w.heap.size a1 c1 ys (1 + k) ∧ (w.heap.size + 1 ≤ wr.heap.size ∧ Below w.heap.size w wr)) (fun _ i _ => n - (intOf i).toNat)
  case atStart => exact ⟨0, Nat.zero_le _, rfl, by simpa [bls] using World.ownsRow_nil _ _ _ _, HR2.out, hS2, HB2.out⟩
  case round =>
    obtain ⟨k, hk, rfl, how, hrr, hsz, hbe⟩ := hrel
    have HO := hid how
    have HRR := hid hrr
    have HBE := hid hbe
    clear how hrr hbe HR2 HB2 hS2
    by_cases hlt : k < n
    · have hki : (k : Int) < (n : Int) := by omega
      go_wp2_with fail
      refine (next_any w.heap.size c1 (1 + k) a1 ys wr HRR.out HL.out HX.out).mono ?_
      rintro e w3 ⟨rfl, r3, g3⟩
      have HO3 := hid (own_marked HO.out g3 (fun q p hq hp => by have := own_in HO.out hq; simp at hp; omega))
      have HR3 := hid r3
      have HB3 := hid (below_grown HBE.out g3 (Nat.le_refl _))
      have hs3 : w.heap.size + 1 ≤ w3.heap.size := Nat.le_trans hsz g3.size
      have HD := hid (dbits_snoc ys k (by rw [← HN.out]; exact hlt))
      clear r3 g3
      generalize nxt ys (1 + k) = d at *
      go_wp2_with (first | (at_builtin; refine wpList_append_own _ rfl _ _ 46 rfl (w.heap.size + 1) 4 i0 (.bool false) 1 1 Try.underlying46 hi hz0 hz1 hz2 rfl (by decide) _ k _ rfl (HO3.out.alloc _) ⟨w3.heap.size, 0, none⟩ 1 1 [.bool ((d : Int) % 2 == 1)] rfl rfl (cell_one_new _ _ _) (one_cell rfl) (by unfold maxLen; omega) (by omega) (by simp; omega) ?_))
      intro v' w4 hown' hgrow _
      have hrow : ∀ p, Value.ownBlock _ = some p → w.heap.size + 1 ≤ p := fun p hp => (own_in HO3.out hp).1
      have HR4 : Hid (Rdr w4 w.heap.size a1 c1 ys (1 + (k + 1))) := hid (((HR3.out.kept (World.grownBy_alloc w3 _ none) (by simp) (by simp)).kept hgrow (fun e => by have := hrow _ e; omega) (fun x hx1 hx2 e => by have := hrow _ e; have := HAB.out x hx1 hx2; omega)))
      have HB4 : Hid (Below w.heap.size w w4) := hid ((HB3.out.alloc HB3.out.size _).grown hgrow (by simp; omega) (fun p hp => by have := hrow p hp; omega))
      have hs4 : w.heap.size + 1 ≤ w4.heap.size := by have := hgrow.size; simp at this; omega
      have HO4 : Hid (w4.ownsRow (w.heap.size + 1) 4 1 v' (k + 1) (bls ((dbits ys).take (k + 1)))) := hid (by
        rw [HD.out, bls_append]; exact hown')
      clear hown' hgrow hrow hs3
      go_wp2
      go_roundw
      case rel => exact ⟨k + 1, by omega, by go_num, HO4.out, HR4.out, hs4, HB4.out⟩
      case measure => simp [intOf]; omega
    · obtain rfl : k = n := by omega
      have hO := HO.out
      have HL2 : Hid ((dbits ys).length = k) := hid (by rw [dbits_len, ← HN.out])
      rw [List.take_of_length_le (by rw [HL2.out]; exact Nat.le_refl _)] at hO
      obtain ⟨a', c', rfl, _⟩ := rd_own hO
      have HO2 := hid hO
      clear hO HO
      go_wp2
      go_ret
      exact ⟨a', c', by rw [HL2.out]; rfl, by rw [HL2.out]; exact own_mono HO2.out (by omega), HBE.out⟩
def DUPost (w : World) (e : Ending) (w' : World) : Prop :=
  ∃ (bs : List Nat) (n : Int) (a' : Option Addr) (c' : Nat), e = .returned (.tuple #[.slice a' bs.length c', .int .i64 n]) ∧ bs.length ≤ 6 ∧ (∀ x ∈ bs, x < 256) ∧ IntIn n ∧ w'.ownsRow w.heap.size 5 1 (.slice a' bs.length c') bs.length (byt bs) ∧ Below w.heap.size w w'
theorem duPost_mk {w w4 : World} {ds : List Nat} {a : Option Addr} {c : Nat} {n : Int} (ho : w4.ownsRow w.heap.size 5 1 (.slice a ds.length c) ds.length (byt ds)) (hb : Below w.heap.size w w4) (hl : ds.length ≤ 6) (hd : ∀ x ∈ ds, x < 256) (hn : IntIn n) :
    DUPost w (.returned (.tuple #[.slice a ds.length c, .int .i64 n])) w4 := ⟨ds, n, a, c, rfl, hl, hd, hn, ho, hb⟩
theorem duPost_set {w w4 : World} {ds : List Nat} {g c i : Nat} {n V : Int} (ho : w4.ownsRow w.heap.size 5 1 (.slice (some ⟨g, 0, none⟩) ds.length c) ds.length (byt ds)) (hb : Below w.heap.size w w4) (hl : ds.length ≤ 6) (hd : ∀ x ∈ ds, x < 256) (hn : IntIn n) (h0 : 0 ≤ V) (h1 : V < 256) :
    DUPost w (.returned (.tuple #[.slice (some ⟨g, 0, none⟩) ds.length c, .int .i64 n])) (w4.setCell ⟨g, i, none⟩ (.int .u8 V)) := by
  have e1 : (ds.set i V.toNat).length = ds.length := by simp
  have e2 : (byt ds).set i (.int .u8 V) = byt (ds.set i V.toNat) := by
    simp only [byt, List.map_set]; rw [show ((V.toNat : Nat) : Int) = V from by omega]
  have ho' := (World.ownsRow.stored ho i (.int .u8 V)).1
  rw [e2] at ho'
  refine ⟨ds.set i V.toNat, n, some ⟨g, 0, none⟩, c, by rw [e1], by omega, ?_, hn, by rw [e1]; exact ho', hb.setCell (by have := own_in ho (g := g) rfl; exact this.1) _⟩
  intro x hx
  rcases List.mem_or_eq_of_mem_set hx with h | h
  · exact hd x h
  · omega
set_option maxRecDepth 1000000 in
set_option maxHeartbeats 4000000 in
theorem drawUnpackBits_any (a : Option Addr) (cap : Nat) (xs : List Nat) (w : World) (hr : Rd w a (byt xs)) (hcap : xs.length ≤ cap) (hnil : a = none → cap = 0) (hl : xs.length ≤ 1048576) (hx : ∀ x ∈ xs, x < 256) :
    Calls Try.prog 26 #[.slice a xs.length cap] w (DUPost w) := by
  obtain ⟨ys, hys⟩ : ∃ ys, ys = xs.take 600 := ⟨_, rfl⟩
  have HX : Hid (∀ x ∈ ys, x < 256) := hid (by rw [hys]; exact take_lt hx 600)
  have HL : Hid (ys.length ≤ 1048576) := hid (by rw [hys]; exact take_len xs)
  have HY := hid hys
  clear hys
  go_enter Try.func26, Try.ntmps26
  go_wp2_with fail
  refine (open_any a cap xs w hr hcap hnil hl).mono ?_
  rintro e w1 ⟨a1, c1, rfl, r1, hab, b1, hsz⟩
  rw [← HY.out] at r1 hab
  have HB1 := hid b1
  have HAB := hid hab
  have HR1 := hid r1
  have HS := hid hsz
  clear hr hx hnil hcap hl hab r1 b1 hsz
  go_wp2_with fail
  refine (next_any w.heap.size c1 0 a1 ys w1 HR1.out HL.out HX.out).mono ?_
  rintro e w2 ⟨rfl, r2, g2⟩
  have HB2 := hid (below_grown HB1.out g2 (Nat.le_refl _))
  have HR2 := hid r2
  have hS2 : w.heap.size + 1 ≤ w2.heap.size := by have := g2.size; have := HS.out; omega
  have hk := nxt_lt HX.out 0
  clear r2 g2
  go_wp2_with fail
  refine (next_any w.heap.size c1 (0 + 1) a1 ys w2 HR2.out HL.out HX.out).mono ?_
  rintro e w3 ⟨rfl, r3, g3⟩
  have HB3 := hid (below_grown HB2.out g3 (Nat.le_refl _))
  have HR3 := hid r3
  have hS3 : w.heap.size + 1 ≤ w3.heap.size := Nat.le_trans hS2 g3.size
  have hv := nxt_lt HX.out (0 + 1)
  clear r3 g3
  generalize nxt ys 0 = k at *
  generalize nxt ys (0 + 1) = v at *
  by_cases h250 : k = 250
  · have ht : ((k : Int) == 250) = true := by simp; omega
    clear h250
    go_wp2
    go_ret2
    exact duPost_mk (ds := [1]) (World.ownsRow_lit w3 #[.int .u8 1] 1 (by omega) (by decide) rfl) (HB3.out.alloc HB3.out.size _) (by decide) (by simp) (by constructor <;> decide)
  have ht : ((k : Int) == 250) = false := by simp; omega
  by_cases h251 : k = 251
  · have ht1 : ((k : Int) == 251) = true := by simp; omega
    clear h251 h250
    go_wp2
    go_ret2
    exact duPost_mk (ds := [1]) (World.ownsRow_lit w3 #[.int .u8 1] 1 (by omega) (by decide) rfl) (HB3.out.alloc HB3.out.size _) (by decide) (by simp) (by constructor <;> decide)
  have ht1 : ((k : Int) == 251) = false := by simp; omega
  clear h250 h251
  go_wp2_with fail
  refine (drawBytes_any w.heap.size c1 (0 + 1 + 1) 6 a1 ys w3 HR3.out (fun x h1 h2 => by have := HAB.out x h1 h2; omega) HL.out HX.out (by omega) (by omega)).mono ?_
  rintro e w4 ⟨a4, c4, rfl, -, o4, -, g4⟩
  have hlen : (drawn ys (0 + 1 + 1) 6).length ≤ 5 := by rw [drawn_len]; omega
  have hdl := drawn_lt HX.out (0 + 1 + 1) 6
  have HDL := hid hdl
  have HO4 := hid (own_mono o4 (show w.heap.size ≤ w3.heap.size by omega))
  have HB4 := hid (below_grown HB3.out g4 (Nat.le_refl _))
  clear o4 g4 hdl
  generalize drawn ys (0 + 1 + 1) 6 = ds at *
  have hk3 : 0 ≤ (k : Int) % 3 ∧ (k : Int) % 3 ≤ 2 := by omega
  have hv9 : 0 ≤ (v : Int) % 9 ∧ (v : Int) % 9 ≤ 8 := by omega
  obtain ⟨hk3a, hk3b⟩ := hk3
  obtain ⟨hv9a, hv9b⟩ := hv9
  by_cases hpar : k % 2 = 0
  · have hp1 : ((k : Int) % 2 == 0) = true := by simp; omega
    clear hpar
    by_cases hp2 : 0 < ds.length
    · have hp2i : (0 : Int) < (ds.length : Int) := by omega
      rcases HO4.out.2 with ⟨_, h0⟩ | ⟨g, c', cur, h', _⟩
      · omega
      simp only [Value.slice.injEq] at h'
      obtain ⟨rfl, -, rfl⟩ := h'
      have hfz := HO4.out.frozenAt (ds.length - 1)
      have hcell : w4.cell? ⟨g, ds.length - 1, none⟩ = some (.int .u8 (ds[ds.length - 1] : Int)) := by
        rw [HO4.out.cellAt (ds.length - 1) (by omega)]; simp [byt, show ds.length - 1 < ds.length from by omega]
      have hd : ds[ds.length - 1] < 256 := HDL.out _ (List.getElem_mem _)
      generalize ds[ds.length - 1] = d at *
      have h8 : (v : Int) % 8 = 0 ∨ (v : Int) % 8 = 1 ∨ (v : Int) % 8 = 2 ∨ (v : Int) % 8 = 3 ∨ (v : Int) % 8 = 4 ∨ (v : Int) % 8 = 5 ∨ (v : Int) % 8 = 6 ∨ (v : Int) % 8 = 7 := by omega
      rcases h8 with e | e | e | e | e | e | e | e
      all_goals
        go_wp2
        go_ret2
        exact duPost_set HO4.out HB4.out (by omega) HDL.out (by constructor <;> omega) (by omega) (by omega)
    · have hp2i : ¬ (0 : Int) < (ds.length : Int) := by omega
      go_wp2
      go_ret2
      exact duPost_mk HO4.out HB4.out (by omega) HDL.out (by constructor <;> omega)
  · have hp1 : ((k : Int) % 2 == 0) = false := by simp; omega
    clear hpar
    go_wp2
    go_ret2
    exact duPost_mk HO4.out HB4.out (by omega) HDL.out (by constructor <;> omega)
end Go.Proofs.Ytcljakdcejhfiac
