/- A row of a million letters a has the published hash. No condition. -/
import Derived.Test.YtbchfpcdmkldeaaDoorShaRowA
namespace Go.Proofs.YtbchfpcdmkldeaaDoor
theorem row_cert : Cert (List.replicate 64 97) rowK := cert_of (W := rowW) (by decide +kernel)
theorem row_all : iterN rowK 15625 h0N = rowS16 := by
  have h0 : iterN rowK 0 h0N = rowS0 := rfl
  have h1 : iterN rowK 1000 h0N = rowS1 := by rw [show 1000 = 0 + 1000 by decide, iter_add, h0]; exact row_0
  have h2 : iterN rowK 2000 h0N = rowS2 := by rw [show 2000 = 1000 + 1000 by decide, iter_add, h1]; exact row_1
  have h3 : iterN rowK 3000 h0N = rowS3 := by rw [show 3000 = 2000 + 1000 by decide, iter_add, h2]; exact row_2
  have h4 : iterN rowK 4000 h0N = rowS4 := by rw [show 4000 = 3000 + 1000 by decide, iter_add, h3]; exact row_3
  have h5 : iterN rowK 5000 h0N = rowS5 := by rw [show 5000 = 4000 + 1000 by decide, iter_add, h4]; exact row_4
  have h6 : iterN rowK 6000 h0N = rowS6 := by rw [show 6000 = 5000 + 1000 by decide, iter_add, h5]; exact row_5
  have h7 : iterN rowK 7000 h0N = rowS7 := by rw [show 7000 = 6000 + 1000 by decide, iter_add, h6]; exact row_6
  have h8 : iterN rowK 8000 h0N = rowS8 := by rw [show 8000 = 7000 + 1000 by decide, iter_add, h7]; exact row_7
  have h9 : iterN rowK 9000 h0N = rowS9 := by rw [show 9000 = 8000 + 1000 by decide, iter_add, h8]; exact row_8
  have h10 : iterN rowK 10000 h0N = rowS10 := by rw [show 10000 = 9000 + 1000 by decide, iter_add, h9]; exact row_9
  have h11 : iterN rowK 11000 h0N = rowS11 := by rw [show 11000 = 10000 + 1000 by decide, iter_add, h10]; exact row_10
  have h12 : iterN rowK 12000 h0N = rowS12 := by rw [show 12000 = 11000 + 1000 by decide, iter_add, h11]; exact row_11
  have h13 : iterN rowK 13000 h0N = rowS13 := by rw [show 13000 = 12000 + 1000 by decide, iter_add, h12]; exact row_12
  have h14 : iterN rowK 14000 h0N = rowS14 := by rw [show 14000 = 13000 + 1000 by decide, iter_add, h13]; exact row_13
  have h15 : iterN rowK 15000 h0N = rowS15 := by rw [show 15000 = 14000 + 1000 by decide, iter_add, h14]; exact row_14
  have h16 : iterN rowK 15625 h0N = rowS16 := by rw [show 15625 = 15000 + 625 by decide, iter_add, h15]; exact row_15
  exact h16
def rowE : List UInt8 := [128, 0, 0, 0, 0, 0, 0, 0, 0, 0, 0, 0, 0, 0, 0, 0, 0, 0, 0, 0, 0, 0, 0, 0, 0, 0, 0, 0, 0, 0, 0, 0, 0, 0, 0, 0, 0, 0, 0, 0, 0, 0, 0, 0, 0, 0, 0, 0, 0, 0, 0, 0, 0, 0, 0, 0, 0, 0, 0, 0, 0, 122, 18, 0]
def rowEW : List Nat := [2147483648, 0, 0, 0, 0, 0, 0, 0, 0, 0, 0, 0, 0, 0, 0, 8000000, 2147483648, 1262493366, 2117632, 211762383, 570427392, 2046640147, 92448578, 2283121809, 1384661390, 1679376483, 897678804, 2854543583, 190528578, 4058075312, 105968916, 3866399270, 2861918589, 1882462722, 347738344, 2891709883, 3625323515, 788249414, 165857473, 3825405546, 2592799897, 1363320750, 2516457357, 3906925102, 794612764, 3098572565, 1348865003, 1788789610, 3436928097, 377046093, 1625690001, 3568280806, 3191616668, 3613147469, 474395344, 4175109608, 832216967, 739729553, 2200874594, 203359767, 2872635362, 2534957989, 482703327, 3872903274]
def rowEK : List Nat := [3263836056, 1899447441, 3049323471, 3921009573, 961987163, 1508970993, 2453635748, 2870763221, 3624381080, 310598401, 607225278, 1426881987, 1925078388, 2162078206, 2614888103, 3256222580, 1687906753, 989750844, 266464710, 816570011, 1340683375, 3295790269, 1647530270, 4279186795, 3938882272, 206243536, 3850675612, 1769889958, 3527100469, 3347636727, 219895909, 4204641165, 3528225794, 2655992634, 1642495716, 4287892174, 1025539919, 2774910465, 2342883823, 1987394287, 1028318522, 4183623161, 1481220861, 2957722577, 15711285, 2403958073, 1148469616, 2064212954, 3867155831, 883994709, 2284750557, 157311387, 4149756239, 641002391, 2011397407, 1628016091, 2787779189, 2763834368, 133637750, 2565212191, 1006104540, 996724880, 3686734806, 2907261276]
def rowT : StN := ⟨3452399196, 2568289170, 2174863330, 2228698727, 4051737160, 2761367566, 74267084, 3339791568⟩
theorem rowE_cert : Cert rowE rowEK := cert_of (W := rowEW) (by decide +kernel)
theorem row_end : endL (List.replicate (64 * 15625) 97) = rowE := by
  rw [endL, List.length_replicate, Nat.mul_div_cancel_left 15625 (by decide), List.drop_of_length_le (by rw [List.length_replicate]; exact Nat.le_refl _)]
  decide +kernel
theorem row_sha : shaZ (List.replicate (64 * 15625) 97) = rowT.z := sha_row row_end (by decide +kernel) row_cert rowE_cert row_all (by decide +kernel)
theorem row_known : hashL (shaZ (List.replicate 1000000 97)) = [205, 199, 110, 92, 153, 20, 251, 146, 129, 161, 199, 226, 132, 215, 62, 103, 241, 128, 154, 72, 164, 151, 32, 14, 4, 109, 57, 204, 199, 17, 44, 208] := by
  rw [show 1000000 = 64 * 15625 by decide, row_sha]
  decide +kernel
end Go.Proofs.YtbchfpcdmkldeaaDoor
