import Derived.Test.YtcljakdcejhfiacJBuffers0
import Derived.BigRegion
namespace Go.Proofs.Ytcljakdcejhfiac
open Go.RowKit
def nxt (xs : List Nat) (j : Nat) : Nat := xs[j]?.getD 0
theorem nxt_lt {xs : List Nat} (h : ∀ x ∈ xs, x < 256) (j : Nat) : nxt xs j < 256 := by
  unfold nxt
  by_cases hj : j < xs.length
  · rw [List.getElem?_eq_getElem hj]; exact h _ (List.getElem_mem _)
  · rw [List.getElem?_eq_none (by omega)]; decide
structure Rdr (w : World) (g : Nat) (a : Option Addr) (c : Nat) (xs : List Nat) (j : Nat) : Prop where
  cells : w.heap[g]? = some (.cells #[.slice a xs.length c, .int .i64 ((min j xs.length : Nat) : Int)] 145 (0, 0))
  rd : Rd w a (byt xs)
  apart : ∀ x, a = some x → xs ≠ [] → x.block ≠ g
theorem Rdr.kept {w w' : World} {g c j : Nat} {a : Option Addr} {xs : List Nat} (h : Rdr w g a c xs j) {row : Option Nat} (hg : w.grownBy w' row) (h1 : row ≠ some g) (h2 : ∀ x, a = some x → xs ≠ [] → row ≠ some x.block) : Rdr w' g a c xs j := by
  have hlt : g < w.heap.size := lt_of_block h.cells
  refine ⟨by rw [hg.block g hlt (fun e => h1 e.symm)]; exact h.cells, ?_, h.apart⟩
  have hl := h.rd.lt
  rcases h.rd with h0 | ⟨b, off, rfl, hc⟩
  · exact .inl h0
  · by_cases he : byt xs = []
    · exact .inl he
    · exact .inr ⟨b, off, rfl, fun i hi => by
        rw [World.cell?_of_block (w := w) (hg.block b (hl _ rfl he) (fun e => h2 _ rfl (by simpa [byt] using he) e.symm))]; exact hc i hi⟩
theorem cell2_0 {w : World} {g : Nat} {u v : Value} {t : TypeId} (h : w.heap[g]? = some (.cells #[u, v] t (0, 0))) : w.cell? ⟨g, 0, none⟩ = some u := by simp [World.cell?, h]
theorem cell2_1 {w : World} {g : Nat} {u v : Value} {t : TypeId} (h : w.heap[g]? = some (.cells #[u, v] t (0, 0))) : w.cell? ⟨g, 1, none⟩ = some v := by simp [World.cell?, h]
theorem free2 {w : World} {g j : Nat} {u v : Value} {t : TypeId} (h : w.heap[g]? = some (.cells #[u, v] t (0, 0))) : w.frozen? ⟨g, j, none⟩ = false := by simp [World.frozen?, h]
set_option maxRecDepth 1000000 in
set_option maxHeartbeats 1000000 in
theorem next_end (g c j : Nat) (a : Option Addr) (xs : List Nat) (w : World) (h : Rdr w g a c xs j) (hj : xs.length ≤ j) :
    Calls Try.prog 66 #[.pointer (some ⟨g, 0, none⟩)] w fun e w' => e = .returned (.int .i64 0) ∧ ∃ m, w' = w.drewN m := by
  have h0 := cell2_0 h.cells
  have h1 := cell2_1 h.cells
  rw [show min j xs.length = xs.length from by omega] at h1
  clear h
  go_enter Try.func66, Try.ntmps66
  go_wp2
  go_quiet (fail)
  go_wp2
  go_ret
  exact ⟨rfl, _, rfl⟩
set_option maxRecDepth 1000000 in
set_option maxHeartbeats 1000000 in
theorem next_go (g c j : Nat) (a : Option Addr) (xs : List Nat) (w : World) (h : Rdr w g a c xs j) (hj : j < xs.length) (hl : xs.length ≤ 1048576) (hx : ∀ x ∈ xs, x < 256) :
    Calls Try.prog 66 #[.pointer (some ⟨g, 0, none⟩)] w fun e w' => e = .returned (.int .i64 ((nxt xs j : Nat) : Int)) ∧ ∃ m, w' = (w.setCell ⟨g, 1, none⟩ (.int .i64 ((j + 1 : Nat) : Int))).drewN m := by
  have h0 := cell2_0 h.cells
  have h1 := cell2_1 h.cells
  have hf := free2 (j := 1) h.cells
  rw [show min j xs.length = j from by omega] at h1
  obtain ⟨b, off, rfl, hcb⟩ : ∃ b off, a = some ⟨b, off, none⟩ ∧ w.cell? ⟨b, off + j, none⟩ = some (.int .u8 (xs[j] : Int)) := by
    rcases h.rd with h0 | ⟨b, off, rfl, hcb⟩
    · have : (byt xs).length = 0 := by rw [h0]; rfl
      rw [byt_len] at this; omega
    · exact ⟨b, off, rfl, rdByte hcb _ hj⟩
  have hji : (j : Int) < (xs.length : Int) := by omega
  have hxj : xs[j] < 256 := hx _ (List.getElem_mem _)
  have HN : Hid (nxt xs j = xs[j]) := hid (by simp [nxt, hj])
  clear h
  go_enter Try.func66, Try.ntmps66
  go_wp2
  go_quiet (fail)
  go_wp2
  go_quiet (fail)
  go_wp2
  go_ret
  exact ⟨ret_int (by rw [HN.out]), _, rfl⟩
theorem grown_drewN {w w' : World} {row : Option Nat} (h : w.grownBy w' row) (m : Nat) : w.grownBy (w'.drewN m) row := ⟨h.os, h.tape, h.output, h.size, h.block⟩
theorem next_any (g c j : Nat) (a : Option Addr) (xs : List Nat) (w : World) (h : Rdr w g a c xs j) (hl : xs.length ≤ 1048576) (hx : ∀ x ∈ xs, x < 256) :
    Calls Try.prog 66 #[.pointer (some ⟨g, 0, none⟩)] w fun e w' => e = .returned (.int .i64 ((nxt xs j : Nat) : Int)) ∧ Rdr w' g a c xs (j + 1) ∧ w.grownBy w' (some g) := by
  by_cases hj : j < xs.length
  · refine (next_go g c j a xs w h hj hl hx).mono ?_
    rintro e w' ⟨rfl, m, rfl⟩
    have hg : w.grownBy (w.setCell ⟨g, 1, none⟩ (.int .i64 ((j + 1 : Nat) : Int))) (some g) :=
      ⟨rfl, rfl, rfl, by simp [World.setCell], fun k _ hk => heap_setCell_other w ⟨g, 1, none⟩ k _ (fun e => hk (by simp [e]))⟩
    refine ⟨rfl, ⟨?_, ?_, h.apart⟩, grown_drewN hg m⟩
    · have := heap_setCell_same w g 1 _ _ (.int .i64 ((j + 1 : Nat) : Int)) h.cells
      rw [show min (j + 1) xs.length = j + 1 from by omega]
      exact this
    · have hlt := h.rd.lt
      rcases h.rd with h0 | ⟨b, off, rfl, hc⟩
      · exact .inl h0
      · have hne : byt xs ≠ [] := by intro e; have : (byt xs).length = 0 := by rw [e]; rfl
                                     rw [byt_len] at this; omega
        have hb : b ≠ g := h.apart _ rfl (by simpa [byt] using hne)
        exact .inr ⟨b, off, rfl, fun i hi => (World.cell?_of_block (w := w) (hg.block b (hlt _ rfl hne) (by simpa using hb))).trans (hc i hi)⟩
  · refine (next_end g c j a xs w h (by omega)).mono ?_
    rintro e w' ⟨rfl, m, rfl⟩
    refine ⟨?_, ⟨?_, h.rd, h.apart⟩, grown_drewN (World.grownBy.refl _ _) m⟩
    · unfold nxt; rw [List.getElem?_eq_none (by omega)]; rfl
    · rw [show min (j + 1) xs.length = min j xs.length from by omega]; exact h.cells
set_option maxRecDepth 1000000 in
set_option maxHeartbeats 1000000 in
theorem open_some (b off cap : Nat) (xs : List Nat) (w : World) (hcap : xs.length ≤ cap) (hl : xs.length ≤ 1048576) :
    Calls Try.prog 65 #[.slice (some ⟨b, off, none⟩) xs.length cap] w fun e w' => e = .returned (.pointer (some ⟨w.heap.size, 0, none⟩)) ∧ w' = w.alloc (.cells #[.slice (some ⟨b, off, none⟩) (min xs.length 600) cap, .int .i64 0] 145) := by
  by_cases h : 600 < xs.length
  · rw [show min xs.length 600 = 600 from by omega]
    go_enter Try.func65, Try.ntmps65
    go_wp2
    go_ret
    exact ⟨rfl, rfl⟩
  · rw [show min xs.length 600 = xs.length from by omega]
    go_enter Try.func65, Try.ntmps65
    go_wp2
    go_ret
    exact ⟨rfl, rfl⟩
set_option maxRecDepth 1000000 in
set_option maxHeartbeats 1000000 in
theorem open_zero (a : Option Addr) (cap : Nat) (w : World) (hnil : a = none → cap = 0) :
    Calls Try.prog 65 #[.slice a 0 cap] w fun e w' => e = .returned (.pointer (some ⟨w.heap.size, 0, none⟩)) ∧ ∃ a' c', w' = w.alloc (.cells #[.slice a' 0 c', .int .i64 0] 145) := by
  cases a with
  | none =>
    obtain rfl := hnil rfl
    go_enter Try.func65, Try.ntmps65
    go_wp2
    go_ret
    exact ⟨rfl, none, 0, rfl⟩
  | some x =>
    clear hnil
    go_enter Try.func65, Try.ntmps65
    go_wp2
    go_ret
    exact ⟨rfl, some x, cap, rfl⟩
theorem open_any (a : Option Addr) (cap : Nat) (xs : List Nat) (w : World) (hr : Rd w a (byt xs)) (hcap : xs.length ≤ cap) (hnil : a = none → cap = 0) (hl : xs.length ≤ 1048576) :
    Calls Try.prog 65 #[.slice a xs.length cap] w fun e w' => ∃ a' c', e = .returned (.pointer (some ⟨w.heap.size, 0, none⟩)) ∧ Rdr w' w.heap.size a' c' (xs.take 600) 0 ∧ (∀ x, a' = some x → xs.take 600 ≠ [] → x.block < w.heap.size) ∧ Below w.heap.size w w' ∧ w'.heap.size = w.heap.size + 1 := by
  by_cases h0 : xs = []
  · subst h0
    refine (open_zero a cap w hnil).mono ?_
    rintro e w' ⟨rfl, a', c', rfl⟩
    exact ⟨a', c', rfl, ⟨heap_alloc_new w _, .inl rfl, fun x _ h => absurd rfl h⟩, fun x _ h => absurd rfl h, (Below.refl _ _).alloc (Nat.le_refl _) _, by simp⟩
  · have hne : byt xs ≠ [] := by simpa [byt] using h0
    have hlt := hr.lt
    rcases hr with h | ⟨b, off, rfl, hc⟩
    · exact absurd h hne
    have hb : b < w.heap.size := hlt _ rfl hne
    refine (open_some b off cap xs w hcap hl).mono ?_
    rintro e w' ⟨rfl, rfl⟩
    refine ⟨_, cap, rfl, ⟨?_, .inr ⟨b, off, rfl, fun i hi => ?_⟩, fun x h _ => by simp at h; subst h; exact Nat.ne_of_lt hb⟩, fun x h _ => by simp at h; subst h; exact hb, (Below.refl _ _).alloc (Nat.le_refl _) _, by simp⟩
    · have := heap_alloc_new w (.cells #[.slice (some ⟨b, off, none⟩) (min xs.length 600) cap, .int .i64 0] 145)
      rw [List.length_take, Nat.min_comm 600]
      simpa using this
    · have hi' : i < xs.length := by simp [byt] at hi; omega
      have e1 : (w.alloc (.cells #[.slice (some ⟨b, off, none⟩) (min xs.length 600) cap, .int .i64 0] 145)).cell? ⟨b, off + i, none⟩ = w.cell? ⟨b, off + i, none⟩ := ((Below.refl w.heap.size w).alloc (Nat.le_refl _) _).cell (p := ⟨b, off + i, none⟩) hb
      rw [e1, rdByte hc i hi']
      simp [byt]
theorem take_lt {xs : List Nat} (h : ∀ x ∈ xs, x < 256) (n : Nat) : ∀ x ∈ xs.take n, x < 256 := fun x hx => h x (List.mem_of_mem_take hx)
theorem take_len (xs : List Nat) : (xs.take 600).length ≤ 1048576 := by rw [List.length_take]; omega
def drawn (xs : List Nat) (j most : Nat) : List Nat := (List.range (nxt xs j % most)).map fun i => nxt xs (j + 1 + i)
theorem drawn_len (xs : List Nat) (j most : Nat) : (drawn xs j most).length = nxt xs j % most := by simp [drawn]
theorem drawn_lt {xs : List Nat} (h : ∀ x ∈ xs, x < 256) (j most : Nat) : ∀ x ∈ drawn xs j most, x < 256 := by
  intro x hx
  obtain ⟨i, _, rfl⟩ := List.mem_map.1 hx
  exact nxt_lt h _
theorem drawn_snoc (xs : List Nat) (j most k : Nat) (h : k < nxt xs j % most) : (drawn xs j most).take (k + 1) = (drawn xs j most).take k ++ [nxt xs (j + 1 + k)] := by
  rw [List.take_succ_eq_append_getElem (by rw [drawn_len]; exact h)]
  simp [drawn]
theorem infoByteR : (Try.prog.info? 5).map (fun i => (i.zero, i.size, i.bytes)) = some (some (.int .u8 0), 1, 1) := by kernel_rfl
theorem grown_next {a b c : World} {g : Nat} (h : a.grownBy b (some g)) {row : Option Nat} (k : b.grownBy c row) (hr : ∀ p, row = some p → p = g ∨ a.heap.size ≤ p) : a.grownBy c (some g) :=
  ⟨k.os.trans h.os, k.tape.trans h.tape, k.output.trans h.output, Nat.le_trans h.size k.size, fun i hi hne => (k.block i (Nat.lt_of_lt_of_le hi h.size) (fun e => by
    rcases hr i e.symm with h1 | h1
    · exact hne (by rw [h1])
    · omega)).trans (h.block i hi hne)⟩
set_option maxRecDepth 1000000 in
set_option maxHeartbeats 1000000 in
theorem drawBytes_any (g c j most : Nat) (a : Option Addr) (xs : List Nat) (w : World) (h : Rdr w g a c xs j) (hab : ∀ x, a = some x → xs ≠ [] → x.block < w.heap.size) (hl : xs.length ≤ 1048576) (hx : ∀ x ∈ xs, x < 256) (hm : 1 ≤ most) (hm2 : most ≤ 256) :
    Calls Try.prog 69 #[.pointer (some ⟨g, 0, none⟩), .int .i64 (most : Int)] w fun e w' => ∃ a' c', e = .returned (.slice a' (drawn xs j most).length c') ∧ (a' = none → c' = 0) ∧ w'.ownsRow w.heap.size 5 1 (.slice a' (drawn xs j most).length c') (drawn xs j most).length (byt (drawn xs j most)) ∧ Rdr w' g a c xs (j + 1 + nxt xs j % most) ∧ w.grownBy w' (some g) := by
  obtain ⟨i0, hi, hz0, hz1, hz2⟩ := info_parts infoByteR
  have hgs : g < w.heap.size := lt_of_block h.cells
  have HX := hid hx
  have HA := hid hab
  have H0 := hid h
  clear hx hab h
  go_enter Try.func69, Try.ntmps69
  go_wp2_with fail
  refine (next_any g c j a xs w H0.out hl HX.out).mono ?_
  rintro e w1 ⟨rfl, r1, g1⟩
  have HR1 := hid r1
  have HG1 := hid g1
  clear r1 g1
  have hm0 : ((most : Int) == 0) = false := by simp; omega
  have HND : Hid ((drawn xs j most).length = nxt xs j % most) := hid (drawn_len xs j most)
  obtain ⟨n, hn⟩ : ∃ n, n = nxt xs j % most := ⟨_, rfl⟩
  have hnm : ((nxt xs j : Nat) : Int) % (most : Int) = (n : Int) := by rw [hn]; simp
  have hn256 : n ≤ 256 := by have := Nat.mod_lt (nxt xs j) (show 0 < most by omega); omega
  have HN := hid hn
  clear hn
  go_wp2
  try rw [hnm]
  clear hnm
  go_loopw [6, 7] (fun v i wr => ∃ k : Nat, k ≤ n ∧ i = .int .i64 k ∧ wr.ownsRow w.heap.size 5 1 v k (byt ((drawn xs j most).take k)) ∧ Rdr wr g a c xs (j + 1 + k) ∧ w.grownBy wr (some g)) (fun _ i _ => n - (intOf i).toNat)
  case atStart => exact ⟨0, Nat.zero_le _, rfl, by simpa [byt] using World.ownsRow_nil _ _ _ _, HR1.out, HG1.out⟩
  case round =>
    obtain ⟨k, hk, rfl, how, hrr, hgr⟩ := hrel
    have HO := hid how
    have HRR := hid hrr
    have HGR := hid hgr
    clear how hrr hgr HR1 HG1
    by_cases hlt : k < n
    · have hki : (k : Int) < (n : Int) := by omega
      go_wp2_with fail
      refine (next_any g c (j + 1 + k) a xs wr HRR.out hl HX.out).mono ?_
      rintro e w2 ⟨rfl, r2, g2⟩
      have HO2 := hid (own_marked HO.out g2 (fun q p hq hp => by have := own_in HO.out hq; simp at hp; omega))
      have HR2 := hid r2
      have HG2 := hid (grown_next HGR.out g2 (fun p hp => by simp at hp; omega))
      have hsz : w.heap.size ≤ w2.heap.size := HG2.out.size
      have hv := nxt_lt HX.out (j + 1 + k)
      have HD := hid (drawn_snoc xs j most k (by rw [← HN.out]; exact hlt))
      clear r2 g2
      generalize nxt xs (j + 1 + k) = d at *
      go_wp2_with (first | (at_builtin; refine wpList_append_own _ rfl _ _ 37 rfl w.heap.size 5 i0 (.int .u8 0) 1 1 Try.underlying37 hi hz0 hz1 hz2 rfl (by decide) _ k _ rfl (HO2.out.alloc _) ⟨w2.heap.size, 0, none⟩ 1 1 [.int .u8 (d : Int)] rfl rfl (cell_one_new _ _ _) (one_cell rfl) (by unfold maxLen; omega) (by omega) (by simp; omega) ?_))
      intro v' w3 hown' hgrow _
      have hrow : ∀ p, Value.ownBlock _ = some p → w.heap.size ≤ p := fun p hp => (own_in HO2.out hp).1
      have HR3 : Hid (Rdr w3 g a c xs (j + 1 + (k + 1))) := hid (((HR2.out.kept (World.grownBy_alloc w2 _ none) (by simp) (by simp)).kept hgrow (fun e => by have := hrow _ e; omega) (fun x hx1 hx2 e => by have := hrow _ e; have := HA.out x hx1 hx2; omega)))
      have HG3 : Hid (w.grownBy w3 (some g)) := hid (grown_next (grown_next HG2.out (World.grownBy_alloc w2 _ none) (by simp)) hgrow (fun p hp => .inr (hrow p hp)))
      have HO3 : Hid (w3.ownsRow w.heap.size 5 1 v' (k + 1) (byt ((drawn xs j most).take (k + 1)))) := hid (by
        rw [HD.out, byt_append]; exact hown')
      clear hown' hgrow hrow
      go_wp2
      go_roundw
      case rel => exact ⟨k + 1, by omega, by go_num, HO3.out, HR3.out, HG3.out⟩
      case measure => simp [intOf]; omega
    · obtain rfl : k = n := by omega
      have hO := HO.out
      rw [List.take_of_length_le (by rw [HND.out, ← HN.out]; exact Nat.le_refl _)] at hO
      have hnil := fun {a : Option Addr} {c : Nat} => own_nil hO (a := a) (c := c)
      obtain ⟨a', c', rfl, _⟩ := rd_own hO
      have HO2 := hid hO
      have HNIL : Hid (a' = none → c' = 0) := hid (fun h => hnil rfl h)
      have HL2 : Hid ((drawn xs j most).length = k) := hid (by rw [HND.out, ← HN.out])
      clear hO HO hnil
      go_wp2
      go_ret
      refine ⟨a', c', by rw [HL2.out]; rfl, fun h => ?_, by rw [HL2.out]; exact HO2.out, by rw [← HN.out]; exact HRR.out, HGR.out⟩
      exact HNIL.out h
end Go.Proofs.Ytcljakdcejhfiac
